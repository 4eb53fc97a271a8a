package node_test

import (
	"math"
	"math/rand"
	"runtime/debug"
	"slices"
	"strconv"
	"strings"
	"testing"

	"recension/api"
	"recension/node"
)

const most, least = math.MaxInt, math.MinInt

func n(kind, tok int, kids ...api.Node) api.Node {
	return api.Node{Kind: kind, Tok: tok, Kids: kids}
}

// label is a node without what is beneath it.
type label struct{ kind, tok int }

func labelOf(x api.Node) label { return label{x.Kind, x.Tok} }

// write tells a tree: two are told alike only if they are the same.
func write(x api.Node) string {
	var b strings.Builder
	b.WriteString(strconv.Itoa(x.Kind) + ":" + strconv.Itoa(x.Tok) + "(")
	for _, kid := range x.Kids {
		b.WriteString(write(kid))
	}
	b.WriteString(")")
	return b.String()
}

func writeAll(l []api.Node) string {
	var told []string
	for _, x := range l {
		told = append(told, write(x))
	}
	return strings.Join(told, " ")
}

// The slow ways are the promise's words, with calls that stand in one another.

func slowCount(x api.Node) int {
	count := 1
	for _, kid := range x.Kids {
		count += slowCount(kid)
	}
	return count
}

func slowDeep(x api.Node) int {
	deepest := 0
	for _, kid := range x.Kids {
		deepest = max(deepest, slowDeep(kid))
	}
	return 1 + deepest
}

func slowWalk(x api.Node, f func(api.Node) bool) {
	if !f(x) {
		return
	}
	for _, kid := range x.Kids {
		slowWalk(kid, f)
	}
}

func slowFind(x api.Node, tok int) []api.Node {
	var found []api.Node
	if x.Tok == tok {
		found = append(found, x)
	}
	for _, kid := range x.Kids {
		found = append(found, slowFind(kid, tok)...)
	}
	return found
}

func wantEq(t *testing.T, a, b api.Node, want bool) {
	t.Helper()
	if got := node.Eq(a, b); got != want {
		t.Errorf("P10.1: Eq(%s, %s) is %v", write(a), write(b), got)
	}
	if got := node.Eq(b, a); got != want {
		t.Errorf("P10.1: Eq(%s, %s) is %v", write(b), write(a), got)
	}
}

func wantCount(t *testing.T, x api.Node, want int) {
	t.Helper()
	if got := node.Count(x); got != want {
		t.Errorf("P10.1: Count(%s) is %d, not %d", write(x), got, want)
	}
}

func wantDeep(t *testing.T, x api.Node, want int) {
	t.Helper()
	if got := node.Deep(x); got != want {
		t.Errorf("P10.1: Deep(%s) is %d, not %d", write(x), got, want)
	}
}

// wantWalk says no to the toks of no, and yes to all others.
func wantWalk(t *testing.T, x api.Node, no []int, want []int) {
	t.Helper()
	var asked []int
	node.Walk(x, func(y api.Node) bool {
		asked = append(asked, y.Tok)
		return !slices.Contains(no, y.Tok)
	})
	if !slices.Equal(asked, want) {
		t.Errorf("P10.1: Walk(%s) with a no to %v asks of %v, not %v", write(x), no, asked, want)
	}
}

func wantFind(t *testing.T, x api.Node, tok int, want ...api.Node) {
	t.Helper()
	if got := node.Find(x, tok); writeAll(got) != writeAll(want) {
		t.Errorf("P10.1: Find(%s, %d) is %s, not %s", write(x), tok, writeAll(got), writeAll(want))
	}
}

func wantName(t *testing.T, kind int, want string) {
	t.Helper()
	if got := node.Name(kind); got != want {
		t.Errorf("P10.1: Name(%d) is %q, not %q", kind, got, want)
	}
}

// same holds all calls about one tree against the slow ways.
func same(t *testing.T, x api.Node) {
	t.Helper()
	wantEq(t, x, x, true)
	wantEq(t, x, copyOf(x), true)
	wantCount(t, x, slowCount(x))
	wantDeep(t, x, slowDeep(x))
	var asked, want []string
	toks := []int{0, -1}
	node.Walk(x, func(y api.Node) bool { asked = append(asked, write(y)); return true })
	slowWalk(x, func(y api.Node) bool {
		want, toks = append(want, write(y)), append(toks, y.Tok)
		return true
	})
	if !slices.Equal(asked, want) {
		t.Errorf("P10.1: Walk(%s) asks of %v, not %v", write(x), asked, want)
	}
	for _, tok := range toks {
		wantFind(t, x, tok, slowFind(x, tok)...)
	}
}

func copyOf(x api.Node) api.Node {
	y := n(x.Kind, x.Tok)
	for _, kid := range x.Kids {
		y.Kids = append(y.Kids, copyOf(kid))
	}
	return y
}

// sample has the toks 1 to 12 in Walk's order.
func sample() api.Node {
	return n(1, 1,
		n(2, 2),
		n(8, 3,
			n(9, 4, n(28, 5)),
			n(10, 6, n(12, 7, n(20, 8)), n(16, 9))),
		n(3, 10, n(7, 11), n(7, 12)))
}

// forests answers all lists of trees of count nodes in all, each node under each of the labels.
func forests(count int, labels []label) [][]api.Node {
	if count == 0 {
		return [][]api.Node{nil}
	}
	var all [][]api.Node
	for first := 1; first <= count; first++ {
		for _, x := range trees(first, labels) {
			for _, rest := range forests(count-first, labels) {
				all = append(all, slices.Concat([]api.Node{x}, rest))
			}
		}
	}
	return all
}

func trees(count int, labels []label) []api.Node {
	var all []api.Node
	for _, kids := range forests(count-1, labels) {
		for _, l := range labels {
			all = append(all, n(l.kind, l.tok, kids...))
		}
	}
	return all
}

func upTo(count int, labels ...label) []api.Node {
	var all []api.Node
	for c := 1; c <= count; c++ {
		all = append(all, trees(c, labels)...)
	}
	return all
}

func TestEqOfOneNode(t *testing.T) {
	numbers := []int{0, 1, -1, 2, 28, 29, 1 << 31, 1 << 32, 1<<32 + 1, -1 << 32, 256, most, most - 1, least, least + 1}
	for _, a := range numbers {
		for _, b := range numbers {
			wantEq(t, n(a, 3), n(b, 3), a == b)
			wantEq(t, n(3, a), n(3, b), a == b)
			wantEq(t, n(a, b), n(b, a), a == b)
			wantEq(t, n(1, 1, n(a, 3)), n(1, 1, n(b, 3)), a == b)
			wantEq(t, n(1, 1, n(3, a)), n(1, 1, n(3, b)), a == b)
		}
	}
	wantEq(t, api.Node{}, api.Node{}, true)
	wantEq(t, api.Node{}, n(0, 0), true)
}

// TestEqOfOtherNumbers holds trees whose numbers would be the same if they were only added up.
func TestEqOfOtherNumbers(t *testing.T) {
	wantEq(t, n(1, 2), n(2, 1), false)
	wantEq(t, n(1, 0, n(2, 3)), n(1, 0, n(3, 2)), false)
	wantEq(t, n(1, 0, n(2, 3)), n(2, 3, n(1, 0)), false)
	wantEq(t, n(1, 1, n(2, 2), n(3, 3)), n(1, 1, n(2, 3), n(3, 2)), false)
}

func TestEqOfHowManyKids(t *testing.T) {
	x := n(1, 0, n(2, 1), n(2, 1))
	wantEq(t, x, n(1, 0), false)
	wantEq(t, x, n(1, 0, n(2, 1)), false)
	wantEq(t, x, n(1, 0, n(2, 1), n(2, 1)), true)
	wantEq(t, x, n(1, 0, n(2, 1), n(2, 1), n(2, 1)), false)
	wantEq(t, x, n(1, 0, n(2, 1), n(2, 1), api.Node{}), false)
	wantEq(t, n(1, 0), n(1, 0, api.Node{}), false)
	wantEq(t, api.Node{}, n(0, 0, api.Node{}), false)
	wantEq(t, n(1, 0, n(1, 0)), n(1, 0, n(1, 0, n(1, 0))), false)
	wantEq(t, n(1, 0, n(2, 1), n(3, 2, n(4, 3))), n(1, 0, n(2, 1), n(3, 2)), false)
	wantEq(t, n(1, 0, n(2, 1, n(4, 3)), n(3, 2)), n(1, 0, n(2, 1), n(3, 2)), false)
}

// TestEqOfWhereKidsStand holds trees of the same nodes, in the same order, that hang otherwise.
func TestEqOfWhereKidsStand(t *testing.T) {
	wantEq(t, n(1, 0, n(1, 0), n(1, 0)), n(1, 0, n(1, 0, n(1, 0))), false)
	wantEq(t, n(1, 0, n(1, 0, n(1, 0)), n(1, 0)), n(1, 0, n(1, 0), n(1, 0, n(1, 0))), false)
	wantEq(t, n(1, 0, n(2, 1, n(4, 3)), n(3, 2)), n(1, 0, n(2, 1), n(3, 2, n(4, 3))), false)
}

func TestEqOfKidsInAnotherOrder(t *testing.T) {
	wantEq(t, n(1, 0, n(2, 1), n(3, 1)), n(1, 0, n(3, 1), n(2, 1)), false)
	wantEq(t, n(1, 0, n(2, 1), n(2, 5)), n(1, 0, n(2, 5), n(2, 1)), false)
	wantEq(t, n(1, 0, n(2, 1, n(4, 4)), n(2, 1, n(5, 5))), n(1, 0, n(2, 1, n(5, 5)), n(2, 1, n(4, 4))), false)
	wantEq(t, n(1, 0, n(2, 1), n(3, 2), n(4, 3)), n(1, 0, n(3, 2), n(4, 3), n(2, 1)), false)
	wantEq(t, n(9, 9, n(1, 0, n(2, 1), n(3, 1))), n(9, 9, n(1, 0, n(3, 1), n(2, 1))), false)
}

// TestEqOfOneChange changes each node of a tree alone, in one thing.
func TestEqOfOneChange(t *testing.T) {
	x := sample()
	for i := range slowCount(x) {
		for what, change := range map[string]func(*api.Node){
			"Kind":           func(y *api.Node) { y.Kind++ },
			"Kind far off":   func(y *api.Node) { y.Kind += 1 << 32 },
			"Tok":            func(y *api.Node) { y.Tok++ },
			"Tok below 0":    func(y *api.Node) { y.Tok = -y.Tok },
			"one Kid more":   func(y *api.Node) { y.Kids = append(y.Kids, api.Node{}) },
			"one Kid first":  func(y *api.Node) { y.Kids = slices.Insert(y.Kids, 0, n(2, 2)) },
			"another's Kids": func(y *api.Node) { y.Kids = []api.Node{n(-1, -1), n(-2, -2), n(-3, -3), n(-4, -4)} },
		} {
			other := copyOf(x)
			change(nodesOf(&other)[i])
			if write(x) == write(other) {
				t.Fatalf("%s of the %dth node changed nothing", what, i)
			}
			wantEq(t, x, other, false)
			wantEq(t, other, copyOf(other), true)
			wantEq(t, n(5, 5, n(6, 6), x), n(5, 5, n(6, 6), other), false)
			wantEq(t, n(5, 5, x, n(6, 6)), n(5, 5, other, n(6, 6)), false)
		}
	}
}

// nodesOf answers where the nodes of a tree are.
func nodesOf(x *api.Node) []*api.Node {
	all := []*api.Node{x}
	for i := range x.Kids {
		all = append(all, nodesOf(&x.Kids[i])...)
	}
	return all
}

func TestEqOfNilKids(t *testing.T) {
	none := api.Node{Kind: 2, Tok: 3}
	empty := api.Node{Kind: 2, Tok: 3, Kids: []api.Node{}}
	roomy := api.Node{Kind: 2, Tok: 3, Kids: []api.Node{n(4, 4), n(5, 5)}[:0]}
	for _, a := range []api.Node{none, empty, roomy} {
		for _, b := range []api.Node{none, empty, roomy} {
			wantEq(t, a, b, true)
			wantEq(t, n(1, 1, a), n(1, 1, b), true)
			wantEq(t, n(1, 1, a, b, n(7, 7)), n(1, 1, b, a, n(7, 7)), true)
			wantEq(t, n(1, 1, n(1, 1, a)), n(1, 1, n(1, 1, b)), true)
			wantEq(t, a, n(1, 1, b), false)
		}
		same(t, a)
		wantCount(t, a, 1)
		wantDeep(t, a, 1)
		same(t, n(1, 1, a, n(1, 1, a)))
		if found := node.Find(n(1, 1, a), 3); len(found) != 1 || !node.Eq(found[0], none) {
			t.Errorf("P10.1: Find of a node without Kids is %s", writeAll(found))
		}
	}
}

// TestEqOfEveryTwo takes each two of the trees of up to four nodes.
func TestEqOfEveryTwo(t *testing.T) {
	all := upTo(4, label{1, 0}, label{1, 1}, label{2, 0})
	var told []string
	for _, x := range all {
		told = append(told, write(x))
	}
	for i := range all {
		for j := range all {
			if got := node.Eq(all[i], all[j]); got != (told[i] == told[j]) {
				t.Fatalf("P10.1: Eq(%s, %s) is %v", told[i], told[j], got)
			}
		}
	}
}

func TestEveryShortTree(t *testing.T) {
	for _, x := range upTo(4, label{1, 0}, label{1, 1}, label{2, 0}) {
		same(t, x)
	}
	for _, x := range upTo(6, label{3, 7}) {
		same(t, x)
	}
}

func TestCountAndDeep(t *testing.T) {
	leaf := n(20, 5)
	for _, c := range []struct {
		what        string
		x           api.Node
		count, deep int
	}{
		{"a zero node", api.Node{}, 1, 1},
		{"one node alone", leaf, 1, 1},
		{"one node of the least numbers", n(least, least), 1, 1},
		{"a Kid", n(1, 0, leaf), 2, 2},
		{"a zero Kid", n(0, 0, api.Node{}), 2, 2},
		{"a chain", n(1, 0, n(2, 1, n(3, 2, n(4, 3, n(5, 4))))), 5, 5},
		{"Kids beside each other", n(1, 0, leaf, leaf, leaf, leaf), 5, 2},
		{"the first Kid the deepest", n(1, 0, n(2, 1, n(3, 2, leaf)), n(2, 1, leaf), leaf), 7, 4},
		{"the last Kid the deepest", n(1, 0, leaf, n(2, 1, leaf), n(2, 1, n(3, 2, leaf))), 7, 4},
		{"one between the deepest", n(1, 0, leaf, n(2, 1, n(3, 2, leaf)), n(2, 1, leaf)), 7, 4},
		{"the deepest not the one of most nodes", n(1, 0, n(2, 1, leaf, leaf, leaf, leaf, leaf), n(2, 1, n(3, 2, leaf))), 10, 4},
		{"two as deep", n(1, 0, n(2, 1, leaf), n(3, 2, leaf)), 5, 3},
		{"a sample", sample(), 12, 5},
	} {
		if got := node.Count(c.x); got != c.count {
			t.Errorf("P10.1: Count of %s is %d, not %d", c.what, got, c.count)
		}
		if got := node.Deep(c.x); got != c.deep {
			t.Errorf("P10.1: Deep of %s is %d, not %d", c.what, got, c.deep)
		}
		same(t, c.x)
	}
}

func TestChainsAndBroadTrees(t *testing.T) {
	leaf := n(20, 5)
	chain := leaf
	broad := n(1, 0)
	for i := 1; i <= 300; i++ {
		wantCount(t, chain, i)
		wantDeep(t, chain, i)
		wantCount(t, broad, i)
		wantDeep(t, broad, min(i, 2))
		chain = n(2, 1, chain)
		broad.Kids = append(broad.Kids, leaf)
	}
	// A chain beneath each of many Kids in turn.
	for i := range 30 {
		x := n(1, 0)
		for j := range 30 {
			x.Kids = append(x.Kids, leaf)
			if i == j {
				x.Kids[j] = n(2, 1, n(2, 1, n(2, 1, leaf)))
			}
		}
		wantCount(t, x, 34)
		wantDeep(t, x, 5)
	}
}

func TestWalk(t *testing.T) {
	x := sample()
	for _, c := range []struct{ no, want []int }{
		{nil, []int{1, 2, 3, 4, 5, 6, 7, 8, 9, 10, 11, 12}},
		{[]int{1}, []int{1}},
		{[]int{2}, []int{1, 2, 3, 4, 5, 6, 7, 8, 9, 10, 11, 12}},
		{[]int{3}, []int{1, 2, 3, 10, 11, 12}},
		{[]int{4}, []int{1, 2, 3, 4, 6, 7, 8, 9, 10, 11, 12}},
		{[]int{6}, []int{1, 2, 3, 4, 5, 6, 10, 11, 12}},
		{[]int{7}, []int{1, 2, 3, 4, 5, 6, 7, 9, 10, 11, 12}},
		{[]int{10}, []int{1, 2, 3, 4, 5, 6, 7, 8, 9, 10}},
		{[]int{11}, []int{1, 2, 3, 4, 5, 6, 7, 8, 9, 10, 11, 12}},
		{[]int{4, 6}, []int{1, 2, 3, 4, 6, 10, 11, 12}},
		{[]int{3, 10}, []int{1, 2, 3, 10}},
		{[]int{3, 4, 5, 6}, []int{1, 2, 3, 10, 11, 12}},
		{[]int{1, 3}, []int{1}},
		{[]int{5, 8, 9, 12}, []int{1, 2, 3, 4, 5, 6, 7, 8, 9, 10, 11, 12}},
	} {
		wantWalk(t, x, c.no, c.want)
	}
	wantWalk(t, n(20, 5), nil, []int{5})
	wantWalk(t, n(20, 5), []int{5}, []int{5})
	wantWalk(t, api.Node{}, nil, []int{0})
	wantWalk(t, n(1, -3, n(2, least), n(2, most)), []int{least}, []int{-3, least, most})
}

// TestWalkOfEveryNo says no to each set of nodes of each shape of tree.
func TestWalkOfEveryNo(t *testing.T) {
	for _, x := range upTo(6, label{1, 0}) {
		for i, y := range nodesOf(&x) {
			y.Tok = i
		}
		for set := range 1 << slowCount(x) {
			yes := func(y api.Node) bool { return set>>y.Tok&1 == 0 }
			var asked, want []int
			node.Walk(x, func(y api.Node) bool { asked = append(asked, y.Tok); return yes(y) })
			slowWalk(x, func(y api.Node) bool { want = append(want, y.Tok); return yes(y) })
			if !slices.Equal(asked, want) {
				t.Fatalf("P10.1: Walk(%s) with a no to the set %b asks of %v, not %v", write(x), set, asked, want)
			}
		}
	}
}

// TestWalkAsksOnceANode holds it for nodes that are all the same, too.
func TestWalkAsksOnceANode(t *testing.T) {
	calls := map[int]int{}
	node.Walk(sample(), func(x api.Node) bool { calls[x.Tok]++; return true })
	for tok := 1; tok <= 12; tok++ {
		if calls[tok] != 1 {
			t.Errorf("P10.1: Walk asks %d times of the node %d", calls[tok], tok)
		}
	}
	if len(calls) != 12 {
		t.Errorf("P10.1: Walk asks of other nodes: %v", calls)
	}
	x := n(1, 0, n(1, 0), n(1, 0, n(1, 0), n(1, 0)), n(1, 0))
	count := 0
	node.Walk(x, func(api.Node) bool { count++; return true })
	if count != 6 {
		t.Errorf("P10.1: Walk of 6 nodes that are the same asks %d times", count)
	}
}

// TestWalkHandsNodesWhole holds that f is handed all that is beneath a node, also where it says no.
func TestWalkHandsNodesWhole(t *testing.T) {
	x := sample()
	node.Walk(x, func(y api.Node) bool {
		if whole := slowFind(x, y.Tok)[0]; write(y) != write(whole) {
			t.Errorf("P10.1: Walk asks of %s, not %s", write(y), write(whole))
		}
		return y.Tok != 6
	})
}

// TestWalkAsksByAnswerAlone holds that a yes or no counts for one node, not for those like it.
func TestWalkAsksByAnswerAlone(t *testing.T) {
	x := n(1, 0, n(2, 1, n(3, 2)), n(2, 1, n(3, 2)), n(2, 1, n(3, 2)))
	var asked []label
	calls := 0
	node.Walk(x, func(y api.Node) bool {
		asked = append(asked, labelOf(y))
		calls++
		return calls != 4
	})
	if want := []label{{1, 0}, {2, 1}, {3, 2}, {2, 1}, {2, 1}, {3, 2}}; !slices.Equal(asked, want) {
		t.Errorf("P10.1: Walk with a no at the 4th call asks of %v, not %v", asked, want)
	}
}

// TestWalkWithinWalk holds that f may call what it likes.
func TestWalkWithinWalk(t *testing.T) {
	x := sample()
	var got, want []int
	node.Walk(x, func(y api.Node) bool {
		got = append(got, y.Tok, node.Count(y), node.Deep(y))
		node.Walk(y, func(z api.Node) bool { got = append(got, z.Tok); return z.Tok != 3 })
		return y.Tok != 6
	})
	slowWalk(x, func(y api.Node) bool {
		want = append(want, y.Tok, slowCount(y), slowDeep(y))
		slowWalk(y, func(z api.Node) bool { want = append(want, z.Tok); return z.Tok != 3 })
		return y.Tok != 6
	})
	if !slices.Equal(got, want) {
		t.Errorf("P10.1: Walk within Walk asks of %v, not %v", got, want)
	}
}

// TestWalkOfAChangedCopy holds that what f does to the node it was handed changes nothing.
func TestWalkOfAChangedCopy(t *testing.T) {
	x := sample()
	var asked []int
	node.Walk(x, func(y api.Node) bool {
		asked = append(asked, y.Tok)
		y.Kind, y.Tok, y.Kids = 0, 0, nil
		return true
	})
	if want := []int{1, 2, 3, 4, 5, 6, 7, 8, 9, 10, 11, 12}; !slices.Equal(asked, want) {
		t.Errorf("P10.1: Walk asks of %v, not %v", asked, want)
	}
	if write(x) != write(sample()) {
		t.Errorf("P0.3: the tree became %s", write(x))
	}
}

func TestWalkOfNil(t *testing.T) {
	for _, x := range []api.Node{{}, n(20, 5), sample()} {
		want := write(x)
		node.Walk(x, nil)
		if write(x) != want {
			t.Errorf("P0.3: Walk of a nil f made %s of %s", write(x), want)
		}
	}
}

// TestWalkOfOneThatPanics panics at each call in turn.
func TestWalkOfOneThatPanics(t *testing.T) {
	x := sample()
	for at := 1; at <= 12; at++ {
		for _, what := range []any{"a text", 7, error(nil), nil} {
			calls := 0
			node.Walk(x, func(y api.Node) bool {
				calls++
				if calls == at {
					panic(what)
				}
				return true
			})
			if calls != at {
				t.Errorf("P0.1: f panics at call %d, and is called %d times", at, calls)
			}
		}
		wantWalk(t, x, []int{3}, []int{1, 2, 3, 10, 11, 12})
	}
	node.Walk(x, func(y api.Node) bool { return y.Kids[len(y.Kids)].Tok == 0 })
}

func TestFind(t *testing.T) {
	leaf := n(20, 5)
	x := n(1, 0, n(2, 1), n(8, 4, n(9, 6, n(28, -7)), n(10, 4, leaf)), n(3, 1, leaf))
	wantFind(t, x, 99)
	wantFind(t, x, 7)
	wantFind(t, x, -1)
	wantFind(t, x, 2)
	wantFind(t, x, 8)
	wantFind(t, x, 1<<32)
	wantFind(t, x, 1<<32+1)
	wantFind(t, x, most)
	wantFind(t, x, least)
	wantFind(t, x, 6, n(9, 6, n(28, -7)))
	wantFind(t, x, -7, n(28, -7))
	wantFind(t, x, 0, x)
	wantFind(t, x, 1, n(2, 1), n(3, 1, leaf))
	wantFind(t, x, 4, n(8, 4, n(9, 6, n(28, -7)), n(10, 4, leaf)), n(10, 4, leaf))
	wantFind(t, x, 5, leaf, leaf)
	wantFind(t, api.Node{}, 0, api.Node{})
	wantFind(t, api.Node{}, 1)
	wantFind(t, n(3, -1), -1, n(3, -1))
	wantFind(t, n(3, 0, n(0, -1)), -1, n(0, -1))
	wantFind(t, n(1, most, n(2, least, n(3, most))), most, n(1, most, n(2, least, n(3, most))), n(3, most))
	wantFind(t, n(1, most, n(2, least, n(3, most))), least, n(2, least, n(3, most)))
}

// TestFindByTokAlone holds that a Kind of the same number is no token.
func TestFindByTokAlone(t *testing.T) {
	wantFind(t, n(4, 9, n(4, 8)), 4)
	wantFind(t, n(4, 9, n(8, 4), n(5, 4)), 4, n(8, 4), n(5, 4))
}

// TestFindInWalkOrder holds a node ahead of those beneath it, and these ahead of its neighbours.
func TestFindInWalkOrder(t *testing.T) {
	x := n(1, 3, n(2, 3, n(3, 3), n(4, 0, n(5, 3))), n(6, 0, n(7, 3, n(8, 3))), n(9, 3))
	var kinds []int
	for _, y := range node.Find(x, 3) {
		kinds = append(kinds, y.Kind)
	}
	if want := []int{1, 2, 3, 5, 7, 8, 9}; !slices.Equal(kinds, want) {
		t.Errorf("P10.1: Find answers the Kinds %v, not %v", kinds, want)
	}
	wantFind(t, x, 3, slowFind(x, 3)...)
	wantFind(t, x, 0, slowFind(x, 0)...)
	for tok := 1; tok <= 12; tok++ {
		wantFind(t, sample(), tok, slowFind(sample(), tok)...)
	}
}

func TestName(t *testing.T) {
	for _, c := range []struct {
		kind int
		want string
	}{
		{api.NFile, "file"}, {api.NPackage, "package"}, {api.NImport, "import"}, {api.NVar, "var"}, {api.NConst, "const"},
		{api.NStruct, "struct"}, {api.NField, "field"}, {api.NFunc, "func"}, {api.NParam, "param"}, {api.NBlock, "block"},
		{api.NDefine, "define"}, {api.NDo, "do"}, {api.NAssign, "assign"}, {api.NIf, "if"}, {api.NFor, "for"},
		{api.NReturn, "return"}, {api.NBreak, "break"}, {api.NContinue, "continue"}, {api.NLabel, "label"}, {api.NName, "name"},
		{api.NInt, "int"}, {api.NString, "string"}, {api.NUnary, "unary"}, {api.NBinary, "binary"}, {api.NParen, "paren"},
		{api.NCall, "call"}, {api.NSelect, "select"}, {api.NType, "type"},
	} {
		wantName(t, c.kind, c.want)
	}
	words := strings.Fields("file package import var const struct field func param block define do assign if for return break continue label name int string unary binary paren call select type")
	if len(words) != 28 {
		t.Fatalf("%d words", len(words))
	}
	for i, want := range words {
		wantName(t, i+1, want)
	}
}

func TestNameOfNoKind(t *testing.T) {
	for _, kind := range []int{0, -1, -2, -28, -29, 29, 30, 31, 32, 56, 57, 64, 100, 1 << 31, 1 << 32, -1 << 31, -1 << 32, most - 1, most, least, least + 1} {
		wantName(t, kind, "")
	}
	// What would be a Kind if it were cut to fewer bits, or turned.
	for kind := 1; kind <= 28; kind++ {
		for _, other := range []int{-kind, ^kind, kind + 1<<8, kind + 1<<16, kind + 1<<32, kind - 1<<8, kind - 1<<32, least + kind, kind + 28*(1+kind/28)} {
			if other < 1 || other > 28 {
				wantName(t, other, "")
			}
		}
	}
	for kind := 29; kind < 1000; kind++ {
		wantName(t, kind, "")
		wantName(t, -kind, "")
	}
}

// chain answers a node that stands beneath count-1 others, the toks from 0 on from above.
func chain(count int) api.Node {
	x := n(2, count-1)
	for tok := count - 2; tok >= 0; tok-- {
		x = n(1, tok, x)
	}
	return x
}

// TestDeeperThanCallsMayBe takes the room from calls that stand in one another; a tree has no limit.
func TestDeeperThanCallsMayBe(t *testing.T) {
	const count = 1_000_000
	defer debug.SetMaxStack(debug.SetMaxStack(16 << 20))
	x, y, z := chain(count), chain(count), n(1, 0, chain(count-1))
	if !node.Eq(x, y) || node.Eq(x, z) || node.Eq(x, chain(count+1)) {
		t.Errorf("P10.1: Eq of chains of %d nodes", count)
	}
	if got := node.Count(x); got != count {
		t.Errorf("P10.1: Count of a chain of %d nodes is %d", count, got)
	}
	if got := node.Deep(x); got != count {
		t.Errorf("P10.1: Deep of a chain of %d nodes is %d", count, got)
	}
	next := 0
	node.Walk(x, func(y api.Node) bool {
		if y.Tok != next {
			t.Fatalf("P10.1: Walk of a chain asks of %d behind %d", y.Tok, next-1)
		}
		next++
		return true
	})
	if next != count {
		t.Errorf("P10.1: Walk of a chain of %d nodes asks %d times", count, next)
	}
	for _, tok := range []int{0, count / 2, count - 1} {
		found := node.Find(x, tok)
		if len(found) != 1 || found[0].Tok != tok || node.Count(found[0]) != count-tok {
			t.Errorf("P10.1: Find of %d in a chain answers %d", tok, len(found))
		}
	}
}

func TestManyKids(t *testing.T) {
	const count = 500_000
	x, y := n(1, -1), n(1, -1)
	for i := range count {
		x.Kids = append(x.Kids, n(2, i, n(3, i%1000)))
		y.Kids = append(y.Kids, n(2, i, n(3, i%1000)))
	}
	if !node.Eq(x, y) || node.Count(x) != 1+2*count || node.Deep(x) != 3 {
		t.Errorf("P10.1: Eq %v, Count %d, Deep %d of %d Kids", node.Eq(x, y), node.Count(x), node.Deep(x), count)
	}
	for _, i := range []int{0, count / 2, count - 1} {
		y.Kids[i].Kids[0].Kind++
		if node.Eq(x, y) {
			t.Errorf("P10.1: Eq where the %dth Kid's Kid is another", i)
		}
		y.Kids[i].Kids[0].Kind--
	}
	found := node.Find(x, 1)
	if len(found) != 1+count/1000 || writeAll(found[:3]) != "2:1(3:1()) 3:1() 3:1()" {
		t.Errorf("P10.1: Find among %d Kids answers %d", count, len(found))
	}
	last := -1
	node.Walk(x, func(y api.Node) bool {
		if y.Kind == 2 {
			if y.Tok != last+1 {
				t.Fatalf("P10.1: Walk asks of the Kid %d behind %d", y.Tok, last)
			}
			last = y.Tok
		}
		return y.Kind == 1
	})
	if last != count-1 {
		t.Errorf("P10.1: Walk of %d Kids ends at %d", count, last)
	}
}

// strewn makes a tree of up to count nodes, of few labels.
func strewn(r *rand.Rand, count int) api.Node {
	x := n(r.Intn(4)-1, r.Intn(6)-2)
	all := []*api.Node{&x}
	for range r.Intn(count) {
		// Where it is put may be the newest one, so that some trees are deep.
		at := all[len(all)-1]
		if r.Intn(3) > 0 {
			at = all[r.Intn(len(all))]
		}
		at.Kids = slices.Insert(at.Kids, r.Intn(len(at.Kids)+1), n(r.Intn(4)-1, r.Intn(6)-2))
		all = nodesOf(&x)
	}
	return x
}

func TestStrewnTrees(t *testing.T) {
	r := rand.New(rand.NewSource(10))
	for range 600 {
		x := strewn(r, 40)
		same(t, x)
		y := copyOf(x)
		all := nodesOf(&y)
		all[r.Intn(len(all))].Kind += 1 + r.Intn(2)
		wantEq(t, x, y, write(x) == write(y))
		z := strewn(r, 4)
		wantEq(t, x, z, write(x) == write(z))
		for tok := -4; tok <= 6; tok++ {
			wantFind(t, x, tok, slowFind(x, tok)...)
		}
	}
}

// roomy answers the same tree, with spare room behind each list of Kids that holds more.
func roomy(x api.Node) api.Node {
	kids := make([]api.Node, 0, len(x.Kids)+3)
	for _, kid := range x.Kids {
		kids = append(kids, roomy(kid))
	}
	spare := append(kids, n(-9, -9), n(-9, 3, n(-9, -9)), n(-9, 5))
	return n(x.Kind, x.Tok, spare[:len(kids)]...)
}

// writeRoom tells a tree with all that its lists have room for.
func writeRoom(x api.Node) string {
	var b strings.Builder
	b.WriteString(strconv.Itoa(x.Kind) + ":" + strconv.Itoa(x.Tok) + "[" + strconv.Itoa(len(x.Kids)) + "](")
	for _, kid := range x.Kids[:cap(x.Kids)] {
		b.WriteString(writeRoom(kid))
	}
	b.WriteString(")")
	return b.String()
}

// overwrite writes over all that can be reached from a list, spare room too.
func overwrite(l []api.Node) {
	l = l[:cap(l)]
	for i := range l {
		overwrite(l[i].Kids)
		l[i] = n(-5, -5, n(-6, -6))
	}
}

// given are trees with a token above and beneath itself, several times, and nowhere.
func given() []api.Node {
	return []api.Node{
		{},
		n(20, 3),
		sample(),
		n(1, 3, n(2, 3, n(3, 3), n(4, 0, n(5, 3))), n(6, 0, n(7, 3, n(8, 3))), n(9, 3)),
		n(1, 0, n(2, 3, n(4, 4)), n(2, 3, n(4, 4)), n(2, 5)),
		n(1, 3, n(2, 3, n(3, 3, n(4, 3)))),
	}
}

func TestTreesStay(t *testing.T) {
	for _, x := range given() {
		a, b := roomy(x), roomy(x)
		want := writeRoom(a)
		node.Eq(a, b)
		node.Eq(a, a)
		node.Eq(a, n(1, 1))
		node.Count(a)
		node.Deep(a)
		node.Walk(a, func(y api.Node) bool { return y.Tok != 4 })
		node.Walk(a, nil)
		for tok := -10; tok <= 12; tok++ {
			node.Find(a, tok)
		}
		if writeRoom(a) != want || writeRoom(b) != want {
			t.Errorf("P0.3: the tree %s was changed: %s, %s", want, writeRoom(a), writeRoom(b))
		}
	}
}

// TestAnswersAreNew writes over what Find answered and what was handed in, spare room too.
func TestAnswersAreNew(t *testing.T) {
	for _, x := range given() {
		for tok := range 6 {
			want := slowFind(x, tok)
			room := roomy(x)
			wantRoom := writeRoom(room)
			first, second := node.Find(room, tok), node.Find(room, tok)
			overwrite(first)
			if writeAll(second) != writeAll(want) {
				t.Errorf("P0.3: what Find(%s, %d) answered was changed through another answer", write(x), tok)
			}
			if writeRoom(room) != wantRoom {
				t.Errorf("P0.3: the tree %s was changed through an answer of Find of %d", write(x), tok)
			}
			wantFind(t, room, tok, want...)
			overwrite(room.Kids)
			if writeAll(second) != writeAll(want) {
				t.Errorf("P0.3: what Find(%s, %d) answered was changed through the tree", write(x), tok)
			}
			wantFind(t, x, tok, want...)
		}
	}
}

// TestAnswersOfOneCallAreApart writes over each node of an answer alone: one that stands beneath another is no part of it.
func TestAnswersOfOneCallAreApart(t *testing.T) {
	for _, x := range given() {
		for tok := range 6 {
			for i := range slowFind(x, tok) {
				want := slowFind(x, tok)
				got := node.Find(x, tok)
				overwrite(got[i].Kids)
				_ = append(got[i].Kids, n(-7, -7))
				for j := range want {
					if i != j && write(got[j]) != write(want[j]) {
						t.Errorf("P0.3: Find(%s, %d): the %dth node was changed through the %dth", write(x), tok, j, i)
					}
				}
			}
		}
	}
}

// TestFindKeepsNoSpareRoom holds that what stands behind the Kids of a tree comes out nowhere.
func TestFindKeepsNoSpareRoom(t *testing.T) {
	for _, x := range given() {
		room := roomy(x)
		wantFind(t, room, -9)
		wantFind(t, room, 3, slowFind(x, 3)...)
		wantCount(t, room, slowCount(x))
		wantDeep(t, room, slowDeep(x))
		wantEq(t, room, x, true)
		for _, y := range node.Find(room, 3) {
			for _, z := range nodesOf(&y) {
				if strings.Contains(writeRoom(*z), "-9") {
					t.Errorf("P0.5: what Find answered has room that holds %s", writeRoom(*z))
				}
			}
		}
	}
}

// TestOneListInManyPlaces holds a tree several of whose nodes have the same list.
func TestOneListInManyPlaces(t *testing.T) {
	kids := []api.Node{n(3, 3, n(4, 4)), n(5, 5)}
	x := n(1, 0, n(2, 1, kids...), n(2, 1, kids...), n(2, 2, kids[:1]...))
	same(t, x)
	wantCount(t, x, 12)
	found := node.Find(x, 1)
	found[0].Kids[0].Kids[0].Tok = 99
	found[0].Kids[1] = n(9, 9)
	if write(found[1]) != "2:1(3:3(4:4())5:5())" || write(n(2, 1, kids...)) != "2:1(3:3(4:4())5:5())" {
		t.Errorf("P0.3: the neighbour became %s, the tree %s", write(found[1]), write(x))
	}
}

func TestSameAnswerAgain(t *testing.T) {
	x := sample()
	for _, y := range given() {
		same(t, y)
		node.Eq(x, y)
		node.Walk(y, func(api.Node) bool { return false })
		overwrite(node.Find(y, 3))
		wantEq(t, x, sample(), true)
		wantCount(t, x, 12)
		wantDeep(t, x, 5)
		wantWalk(t, x, []int{3}, []int{1, 2, 3, 10, 11, 12})
		wantFind(t, x, 4, n(9, 4, n(28, 5)))
		wantName(t, 28, "type")
	}
}

// grown makes a tree of bytes: each puts a node beneath, beside, or further up.
func grown(b []byte) api.Node {
	x := n(0, 0)
	path := []*api.Node{&x}
	for _, c := range b {
		up := int(c>>6) % len(path)
		at := path[len(path)-1-up]
		at.Kids = append(at.Kids, n(int(c&3), int(c>>2&3)-1))
		path = append(path[:len(path)-up], &at.Kids[len(at.Kids)-1])
	}
	return x
}

// Any tree at all may come in; run with -fuzz to look further.
func FuzzTree(f *testing.F) {
	f.Add([]byte(""), []byte("a"), 0)
	f.Add([]byte("\x01\x42\x83\xc4"), []byte("\x01\x42\x83\xc5"), -1)
	f.Fuzz(func(t *testing.T, a, b []byte, number int) {
		// The slow ways and what tells a tree are of a square of its length.
		x, y := grown(a[:min(len(a), 200)]), grown(b[:min(len(b), 200)])
		same(t, x)
		wantEq(t, x, y, write(x) == write(y))
		wantFind(t, x, number, slowFind(x, number)...)
		if number < 1 || number > 28 {
			wantName(t, number, "")
		}
	})
}
