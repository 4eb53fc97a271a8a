package scope_test

import (
	"fmt"
	"strings"
	"testing"

	"recension/scope"
)

// pair is a name and what it stands for.
type pair struct {
	name string
	decl scope.Decl
}

// slow is the promise's words: scopes, the outermost one first, of which each one's names are gone through one by one.
type slow struct{ scopes [][]pair }

func newSlow() *slow { return &slow{make([][]pair, 1)} }

func (s *slow) push() { s.scopes = append(s.scopes, nil) }

func (s *slow) pop() bool {
	if len(s.scopes) == 1 {
		return false
	}
	s.scopes = s.scopes[:len(s.scopes)-1]
	return true
}

func (s *slow) add(name string, d scope.Decl) bool {
	if _, ok := s.here(name); ok {
		return false
	}
	last := len(s.scopes) - 1
	s.scopes[last] = append(s.scopes[last], pair{name, d})
	return true
}

func (s *slow) here(name string) (scope.Decl, bool) { return in(s.scopes[len(s.scopes)-1], name) }

func (s *slow) find(name string) (scope.Decl, bool) {
	for i := len(s.scopes) - 1; i >= 0; i-- {
		if d, ok := in(s.scopes[i], name); ok {
			return d, true
		}
	}
	return scope.Decl{}, false
}

func in(pairs []pair, name string) (scope.Decl, bool) {
	for _, p := range pairs {
		if p.name == name {
			return p.decl, true
		}
	}
	return scope.Decl{}, false
}

// both does the same with Scopes and the slow way, and keeps what was done.
type both struct {
	t    *testing.T
	s    *scope.Scopes
	slow *slow
	done []string
}

func newBoth(t *testing.T) *both { return &both{t: t, s: scope.New(), slow: newSlow()} }

// failed tells the last of what was done.
func (b *both) failed(call string, got, want any) {
	b.t.Helper()
	b.t.Fatalf("P13.1: %s is %v, not %v, behind %s", call, got, want, strings.Join(b.done[max(0, len(b.done)-40):], " "))
}

func (b *both) push() {
	b.done = append(b.done, "Push")
	b.s.Push()
	b.slow.push()
}

func (b *both) pop() {
	b.t.Helper()
	b.done = append(b.done, "Pop")
	if got, want := b.s.Pop(), b.slow.pop(); got != want {
		b.failed("Pop", got, want)
	}
}

func (b *both) add(name string, d scope.Decl) {
	b.t.Helper()
	b.done = append(b.done, fmt.Sprintf("Add(%q,%v)", name, d))
	if got, want := b.s.Add(name, d), b.slow.add(name, d); got != want {
		b.failed("Add", got, want)
	}
}

// ask holds Deep, and Find and Here of all names, against the slow way.
func (b *both) ask(names ...string) {
	b.t.Helper()
	if got, want := b.s.Deep(), len(b.slow.scopes); got != want {
		b.failed("Deep", got, want)
	}
	for _, name := range names {
		d, ok := b.s.Find(name)
		if want, wantOK := b.slow.find(name); d != want || ok != wantOK {
			b.failed(fmt.Sprintf("Find(%q)", name), fmt.Sprint(d, ok), fmt.Sprint(want, wantOK))
		}
		d, ok = b.s.Here(name)
		if want, wantOK := b.slow.here(name); d != want || ok != wantOK {
			b.failed(fmt.Sprintf("Here(%q)", name), fmt.Sprint(d, ok), fmt.Sprint(want, wantOK))
		}
	}
}
