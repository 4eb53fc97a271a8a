package shape_test

import (
	"slices"
	"strconv"
	"strings"
	"testing"

	"recension/api"
	"recension/parse"
	"recension/shape"
)

// roomy answers the same tree, with spare room behind each list of Kids that holds more.
func roomy(x api.Node) api.Node {
	kids := make([]api.Node, 0, len(x.Kids)+2)
	for _, kid := range x.Kids {
		kids = append(kids, roomy(kid))
	}
	spare := append(kids, n(-9, 1, n(-9, -9)), n(api.NName, 0))
	return n(x.Kind, x.Tok, spare[:len(kids)]...)
}

// writeRoom tells a tree with all that its lists have room for.
func writeRoom(x api.Node) string {
	var b strings.Builder
	b.WriteString(strconv.Itoa(x.Kind) + ":" + strconv.Itoa(x.Tok) + "[" + strconv.Itoa(len(x.Kids)) + "](")
	for _, kid := range x.Kids[:cap(x.Kids)] {
		b.WriteString(writeRoom(kid))
	}
	b.WriteString(")")
	return b.String()
}

// roomyTokens answers the same list, with spare room that holds more.
func roomyTokens(l []api.Token) []api.Token {
	return slices.Concat(l, []api.Token{{Kind: -7, Text: "spare", At: -7, Line: -7, Auto: true}, {Text: "room"}})[:len(l)]
}

// overwrite writes over all lists of a tree, spare room too.
func overwrite(l []api.Node) {
	l = l[:cap(l)]
	for i := range l {
		overwrite(l[i].Kids)
		l[i] = n(api.NFor, -5, n(-6, -6))
	}
}

// given are trees and the tokens that they are of, some of which the list has not.
func given(t *testing.T) ([]api.Node, [][]api.Token) {
	t.Helper()
	nodes := []api.Node{{}, n(api.NName, 1), n(api.NVar, 1, n(api.NType, 2), n(api.NInt, 3), n(0, -1)), n(api.NIf, 9, n(api.NName, 9), n(api.NBlock, 0))}
	tokens := [][]api.Token{nil, {}, texts("a", "b", "c"), texts("a")}
	for _, x := range valid()[:60] {
		tree, l, fault := parse.Text(x[0])
		if fault >= 0 {
			t.Fatalf("parse has a fault in %q", x[0])
		}
		nodes, tokens = append(nodes, tree), append(tokens, l)
	}
	return nodes, tokens
}

// TestArgumentsStay hands in trees and lists with spare room, which no call may read or write into.
func TestArgumentsStay(t *testing.T) {
	nodes, tokens := given(t)
	for i := range nodes {
		for _, l := range [][]api.Token{tokens[i], tokens[i][:len(tokens[i])/2], nil} {
			want := slow(nodes[i], l)
			x, list := roomy(nodes[i]), roomyTokens(l)
			wantRoom, wantTokens := writeRoom(x), slices.Clone(list[:cap(list)])
			wantText(t, x, list, want)
			wantText(t, x, list, want)
			if writeRoom(x) != wantRoom {
				t.Errorf("P0.3: the tree of %q was changed", want)
			}
			if !slices.Equal(list[:cap(list)], wantTokens) {
				t.Errorf("P0.3: the tokens of %q were changed", want)
			}
		}
	}
}

// TestArgumentsAreNotKept writes over what was handed in, behind the call: no answer changes, those that were there and those that come.
func TestArgumentsAreNotKept(t *testing.T) {
	nodes, tokens := given(t)
	for i := range nodes {
		want := slow(nodes[i], tokens[i])
		x, list := roomy(nodes[i]), roomyTokens(tokens[i])
		got := shape.Text(x, list)
		overwrite(x.Kids)
		for j := range list {
			list[j] = api.Token{Kind: api.TName, Text: "spoilt"}
		}
		if got != want {
			t.Errorf("P0.3: an answer has become %q, not %q", got, want)
		}
		same(t, x, list)
		same(t, x, tokens[i])
		same(t, nodes[i], list)
		wantText(t, nodes[i], tokens[i], want)
	}
}

// TestOneListInManyPlaces has a tree several of whose nodes have the same list.
func TestOneListInManyPlaces(t *testing.T) {
	kids := []api.Node{n(api.NType, 0, n(api.NName, 1)), n(api.NInt, 2)}
	x := n(api.NBlock, 0, n(api.NVar, 1, kids...), n(api.NVar, 2, kids[:1]...), n(api.NVar, 0, kids...), n(api.NVar, 0, kids[:0]...))
	l := texts("a", "b", "c")
	wantText(t, x, l, "(block (var b (type a (name b)) (int c)) (var c (type a (name b))) (var a (type a (name b)) (int c)) (var a))")
	same(t, x, l)
}

// TestAgain asks in turn, forth and back: no call hangs on the one ahead of it.
func TestAgain(t *testing.T) {
	nodes, tokens := given(t)
	all := append(valid()[:100], [2]string{"package"}, [2]string{inFunc("x y")}, [2]string{}, [2]string{"\xff"})
	for i, x := range slices.Concat(all, all) {
		wantOf(t, x[0], x[1], x[1] != "")
		wantText(t, nodes[i%len(nodes)], tokens[i%len(nodes)], slow(nodes[i%len(nodes)], tokens[i%len(nodes)]))
		shape.Same(x[0], "package a")
	}
	for i := range slices.Backward(all) {
		wantOf(t, all[i][0], all[i][1], all[i][1] != "")
		wantSame(t, all[i][0], all[i][0], all[i][1] != "")
	}
}
