package parse_test

import (
	"slices"
	"strconv"
	"strings"
	"testing"

	"recension/api"
	"recension/node"
	"recension/parse"
	"recension/scan"
)

// grammar is the chapter's, with its sentence on semicolons written out. A rule that is called as a Kind is (digits aside) makes a node of it, and any other hands up the nodes beneath it. A node's token is the one behind a `^`, or else its first one. A rule behind a `+` is a nesting.
const grammar = `
file      = "package" package ";" Semis { "import" import ";" Semis } { Decl ";" Semis } END
package   = NAME
import    = NAME
Semis     = { ";" }
Decl      = "var" var | "const" const | "type" struct | "func" func
var       = NAME Type [ "=" Expr ]
const     = NAME "=" Expr
struct    = NAME "struct" Fields
+Fields   = "{" Semis [ field MoreField ] "}"
MoreField = [ ";" Semis [ field MoreField ] ]
field     = NAME Type
func      = NAME "(" [ param { "," param } ] ")" [ Type ] block
param     = NAME Type
Type      = type1 | type2
type1     = NAME
type2     = name "." ^NAME
+block    = "{" Semis [ Stmt MoreStmt ] "}"
MoreStmt  = [ ";" Semis [ Stmt MoreStmt ] ]
Stmt      = "var" var | "const" const | block | if | for | define | label1 | do | assign | return | break | continue
define    = NAME ":=" Expr
label1    = NAME ":" for
label2    = NAME
do        = Expr
assign    = Expr ^"=" Expr
return    = "return" [ Expr ]
break     = "break" [ label2 ]
continue  = "continue" [ label2 ]
if        = "if" Expr block [ "else" ( block | Chain ) ]
+Chain    = if
for       = "for" Expr block
Expr      = Unary { binary Unary }
binary    = "||" | "&&" | "==" | "!=" | "<" | "+" | "-" | "*"
Unary     = unary | Prim
+unary    = ( "-" | "!" ) Unary
Prim      = ( name | int | string | paren ) { call | select }
name      = NAME
int       = INT
string    = STRING
+paren    = "(" Expr ")"
+call     = "(" [ Expr { "," Expr } ] ")"
select    = "." ^NAME
`

// The parts of a rule's body.
type (
	term struct {
		is     func(api.Token) bool
		marked bool
	}
	rule  string
	row   []any
	one   []row
	maybe struct{ of one }
	many  struct{ of one }
	done  struct{}
)

type slow struct {
	bodies map[rule]one
	nests  map[rule]bool
}

func newSlow() *slow {
	s := &slow{map[rule]one{}, map[rule]bool{}}
	for line := range strings.Lines(strings.TrimSpace(grammar)) {
		words := strings.Fields(line)
		head := rule(strings.TrimPrefix(words[0], "+"))
		s.nests[head] = strings.HasPrefix(words[0], "+")
		s.bodies[head], _ = readOne(words[2:])
	}
	return s
}

// readOne reads as far as a bracket that it did not open.
func readOne(words []string) (one, []string) {
	all := one{nil}
	for len(words) > 0 && !strings.Contains(")]}", words[0]) {
		w := words[0]
		words = words[1:]
		if w == "|" {
			all = append(all, nil)
			continue
		}
		var part any
		switch w {
		case "(", "[", "{":
			var inner one
			inner, words = readOne(words)
			part, words = bracket(w, inner), words[1:]
		default:
			part = readWord(w)
		}
		all[len(all)-1] = append(all[len(all)-1], part)
	}
	return all, words
}

func bracket(w string, inner one) any {
	switch w {
	case "[":
		return maybe{inner}
	case "{":
		return many{inner}
	}
	return inner
}

func readWord(w string) any {
	w, marked := strings.CutPrefix(w, "^")
	ofKind := func(kind int) any {
		return term{func(t api.Token) bool { return t.Kind == kind }, marked}
	}
	switch w {
	case "NAME":
		return ofKind(api.TName)
	case "INT":
		return ofKind(api.TInt)
	case "STRING":
		return ofKind(api.TString)
	case "END":
		return ofKind(api.TEnd)
	case `";"`:
		return ofKind(api.TSemi)
	}
	if w[0] != '"' {
		return rule(w)
	}
	text := strings.Trim(w, `"`)
	kind := api.TOp
	if slices.Contains(keys(), text) {
		kind = api.TKey
	}
	return term{func(t api.Token) bool { return t.Kind == kind && t.Text == text }, marked}
}

// A thread is one way in which the tokens up to here can be read.
type thread struct {
	wanted *link
	deep   int
	past   *event
}

type link struct {
	part any
	next *link
}

// An event is a rule that begins, a token, or (neither) the end of a rule.
type event struct {
	begins rule
	tok    int // from 1
	marked bool
	past   *event
}

func (s *slow) start() []thread { return []thread{{wanted: &link{part: rule("file")}}} }

// step answers all the ways that go on with the token of the number i.
func (s *slow) step(threads []thread, t api.Token, i int) []thread {
	var on []thread
	for _, th := range threads {
		s.read(th, t, i, &on)
	}
	return on
}

func (s *slow) read(th thread, t api.Token, i int, on *[]thread) {
	if th.wanted == nil {
		return
	}
	next := th.wanted.next
	with := func(parts ...any) thread {
		rest := next
		for _, part := range slices.Backward(parts) {
			rest = &link{part, rest}
		}
		return thread{rest, th.deep, th.past}
	}
	switch part := th.wanted.part.(type) {
	case term:
		if part.is(t) {
			*on = append(*on, thread{next, th.deep, &event{tok: i + 1, marked: part.marked, past: th.past}})
		}
	case rule:
		begun := with(s.bodies[part], done{})
		if s.nests[part] {
			begun = with(s.bodies[part], done{}, -1)
			begun.deep++
		}
		begun.past = &event{begins: part, past: th.past}
		if begun.deep <= 40 {
			s.read(begun, t, i, on)
		}
	case int:
		left := with()
		left.deep--
		s.read(left, t, i, on)
	case done:
		left := with()
		left.past = &event{past: th.past}
		s.read(left, t, i, on)
	case one:
		for _, r := range part {
			s.read(with(r...), t, i, on)
		}
	case maybe:
		s.read(with(), t, i, on)
		s.read(with(part.of), t, i, on)
	case many:
		s.read(with(), t, i, on)
		s.read(with(part.of, part), t, i, on)
	}
}

// run answers what the chapter asks of Tokens: the tree, told, and -1; or "" and the token.
func (s *slow) run(l []api.Token) (string, int) { return s.on(s.start(), l, 0) }

// on is run from the token of the number i on.
func (s *slow) on(threads []thread, l []api.Token, i int) (string, int) {
	for ; i < len(l); i++ {
		if threads = s.step(threads, l[i], i); len(threads) == 0 {
			return "", i
		}
	}
	return s.ended(threads, l)
}

// ended is run behind the last token.
func (s *slow) ended(threads []thread, l []api.Token) (string, int) {
	var trees []string
	for _, th := range threads {
		if th.wanted == nil || th.wanted.part == any(done{}) && th.wanted.next == nil {
			trees = append(trees, tell(treeOf(th.past, l)))
		}
	}
	switch len(trees) {
	case 0:
		return "", len(l)
	case 1:
		return trees[0], -1
	}
	panic("the grammar reads a text in two ways: " + strings.Join(trees, ", "))
}

// piece is a rule and what was read by it.
type piece struct {
	rule   rule
	tok    int // -1: none so far
	pieces []*piece
}

func treeOf(past *event, l []api.Token) api.Node {
	var events []*event
	for e := past; e != nil; e = e.past {
		events = append(events, e)
	}
	top := &piece{}
	open := []*piece{top}
	for _, e := range slices.Backward(events) {
		last := open[len(open)-1]
		switch {
		case e.begins != "":
			p := &piece{rule: e.begins, tok: -1}
			last.pieces = append(last.pieces, p)
			open = append(open, p)
		case e.tok > 0:
			for _, p := range open {
				if p.tok < 0 || e.marked && p == last {
					p.tok = e.tok - 1
				}
			}
		default:
			open = open[:len(open)-1]
		}
	}
	return nodesOf(top, l)[0]
}

func nodesOf(p *piece, l []api.Token) []api.Node {
	var kids []api.Node
	for _, inner := range p.pieces {
		kids = append(kids, nodesOf(inner, l)...)
	}
	switch p.rule {
	case "Expr":
		return []api.Node{bind(kids, l)}
	case "Prim":
		x := kids[0]
		for _, y := range kids[1:] {
			y.Kids = slices.Insert(y.Kids, 0, x)
			x = y
		}
		return []api.Node{x}
	}
	kind := kindOf(strings.TrimRight(string(p.rule), "12"))
	if kind == 0 {
		return kids
	}
	return []api.Node{{Kind: kind, Tok: p.tok, Kids: kids}}
}

func kindOf(name string) int {
	for kind := 1; kind <= 28; kind++ {
		if node.Name(kind) == name {
			return kind
		}
	}
	return 0
}

// bind parts a row of operands and operators at the one that binds last.
func bind(l []api.Node, tokens []api.Token) api.Node {
	if len(l) == 1 {
		return l[0]
	}
	rank := func(i int) int { return rankOf(tokens[l[i].Tok].Text) }
	last := 1
	for i := 1; i < len(l); i += 2 {
		if rank(i) <= rank(last) {
			last = i
		}
	}
	n := l[last]
	n.Kids = []api.Node{bind(l[:last], tokens), bind(l[last+1:], tokens)}
	return n
}

func rankOf(s string) int {
	for i, ops := range []string{"||", "&&", "== != <", "+ -", "*"} {
		if slices.Contains(strings.Fields(ops), s) {
			return i + 1
		}
	}
	return 0
}

// tell tells a tree: the names of the Kinds and the numbers of the tokens.
func tell(n api.Node) string {
	var b strings.Builder
	tellTo(&b, n)
	return b.String()
}

func tellTo(b *strings.Builder, n api.Node) {
	b.WriteString(node.Name(n.Kind) + strconv.Itoa(n.Tok))
	for i, kid := range n.Kids {
		b.WriteString([]string{"(", " "}[min(i, 1)])
		tellTo(b, kid)
	}
	if len(n.Kids) > 0 {
		b.WriteString(")")
	}
}

// short keeps what a fault tells readable.
func short(s string) string { return s[:min(len(s), 500)] }

// hold holds Tokens against what the slow way answered.
func hold(t *testing.T, l []api.Token, want string, wantFault int) {
	t.Helper()
	tree, fault := parse.Tokens(l)
	if fault != wantFault || fault < 0 && tell(tree) != want {
		t.Fatalf("P11.1: Tokens(%s) is %s, %d, not %s, %d", textOf(l), short(tell(tree)), fault, short(want), wantFault)
	}
	if fault >= 0 && (tree.Kind != 0 || tree.Tok != 0 || tree.Kids != nil) {
		t.Fatalf("P0.2: Tokens(%s) has a fault and the tree %#v", textOf(l), tree)
	}
}

// same holds Tokens against the slow way.
func (s *slow) same(t *testing.T, l []api.Token) {
	t.Helper()
	want, fault := s.run(l)
	hold(t, l, want, fault)
}

// sameText holds Text against the slow way, and answers whether s is a text.
func (s *slow) sameText(t *testing.T, text string) bool {
	t.Helper()
	l, _, want := scan.Scan(text)
	told := ""
	if want < 0 {
		var fault int
		if told, fault = s.run(l); fault >= 0 {
			want = l[fault].At
		}
	}
	wantText(t, text, told, want)
	return want < 0
}
