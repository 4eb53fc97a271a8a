package merge

import "recension/api"

// pile is what container/heap works on. It stands apart from Queue, so that a Queue has no methods but the chapter's.
type pile []api.Edit

func (p pile) Len() int           { return len(p) }
func (p pile) Less(i, j int) bool { return order(p[i], p[j]) < 0 }
func (p pile) Swap(i, j int)      { p[i], p[j] = p[j], p[i] }

// Push and Pop are for container/heap alone, which hands on what a Queue gave it.
func (p *pile) Push(x any) { *p = append(*p, x.(api.Edit)) }

func (p *pile) Pop() any {
	last := len(*p) - 1
	e := (*p)[last]
	// Else the spare room would keep the text of an edit that went.
	(*p)[last] = api.Edit{}
	*p = (*p)[:last]
	return e
}
