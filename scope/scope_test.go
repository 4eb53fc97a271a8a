package scope_test

import (
	"fmt"
	"math"
	"math/rand"
	"runtime"
	"strings"
	"testing"

	"recension/scope"
)

func d(file, tok, kind int) scope.Decl { return scope.Decl{File: file, Tok: tok, Kind: kind} }

func wantDeep(t *testing.T, s *scope.Scopes, want int) {
	t.Helper()
	if got := s.Deep(); got != want {
		t.Errorf("P13.1: Deep is %d, not %d", got, want)
	}
}

func wantPop(t *testing.T, s *scope.Scopes, want bool) {
	t.Helper()
	if got := s.Pop(); got != want {
		t.Errorf("P13.1: Pop is %v", got)
	}
}

func wantAdd(t *testing.T, s *scope.Scopes, name string, d scope.Decl, want bool) {
	t.Helper()
	if got := s.Add(name, d); got != want {
		t.Errorf("P13.1: Add(%.30q, %v) is %v", name, d, got)
	}
}

func wantFind(t *testing.T, s *scope.Scopes, name string, want scope.Decl) {
	t.Helper()
	if got, ok := s.Find(name); got != want || !ok {
		t.Errorf("P13.1: Find(%.30q) is %v, %v, not %v", name, got, ok, want)
	}
}

func wantNotFound(t *testing.T, s *scope.Scopes, name string) {
	t.Helper()
	if got, ok := s.Find(name); ok || got != (scope.Decl{}) {
		t.Errorf("P13.1: Find(%.30q) is %v, %v", name, got, ok)
	}
}

func wantHere(t *testing.T, s *scope.Scopes, name string, want scope.Decl) {
	t.Helper()
	if got, ok := s.Here(name); got != want || !ok {
		t.Errorf("P13.1: Here(%.30q) is %v, %v, not %v", name, got, ok, want)
	}
}

func wantNotHere(t *testing.T, s *scope.Scopes, name string) {
	t.Helper()
	if got, ok := s.Here(name); ok || got != (scope.Decl{}) {
		t.Errorf("P13.1: Here(%.30q) is %v, %v", name, got, ok)
	}
}

// names are of no bytes, of many, and of any; each is another one.
func names() []string {
	l := []string{
		"", "x", "X", "xx", "xy", "x ", " x", "x\n", "x\x00", "\x00x", "\x00", "\x00\x00", "x.y", "for", "int", "true", "_", "1",
		"é", "e\u0301", "É", "☃", "\U0001f600", "\ufffd", "\ufeff", "\ufeffx", "\xc3", "\xc3\x28", "\xed\xa0\x80", "\xff\xff", "K", "\u212a",
		strings.Repeat("x", 24), strings.Repeat("x", 25), strings.Repeat("x", 1<<20), strings.Repeat("x", 1<<20-1) + "y", "y" + strings.Repeat("x", 1<<20-1),
	}
	for b := range 256 {
		if s := string([]byte{byte(b)}); s != "x" && s != "X" && s != "K" && s != "_" && s != "1" && s != "\x00" && s != "\xc3" {
			l = append(l, s)
		}
	}
	return l
}

// numbers are what a Decl may be of.
func numbers() []int {
	return []int{0, 1, -1, 2, -2, 7, 1 << 31, -1 << 31, 1<<32 + 1, math.MaxInt - 1, math.MaxInt, math.MinInt, math.MinInt + 1}
}

func TestNew(t *testing.T) {
	s := scope.New()
	wantDeep(t, s, 1)
	for _, name := range names() {
		wantNotFound(t, s, name)
		wantNotHere(t, s, name)
	}
	wantDeep(t, s, 1)
	wantPop(t, s, false)
	wantDeep(t, s, 1)
}

func TestTwoOfNew(t *testing.T) {
	a, b := scope.New(), scope.New()
	if a == b {
		t.Error("P13.1: New answers the same one again")
	}
	wantAdd(t, a, "x", d(1, 2, 3), true)
	wantNotFound(t, b, "x")
	wantNotHere(t, b, "x")
	a.Push()
	wantDeep(t, a, 2)
	wantDeep(t, b, 1)
	wantPop(t, b, false)
	wantAdd(t, b, "x", d(4, 5, 6), true)
	wantAdd(t, b, "y", d(7, 8, 9), true)
	wantFind(t, a, "x", d(1, 2, 3))
	wantNotHere(t, a, "x")
	wantNotFound(t, a, "y")
	wantHere(t, b, "x", d(4, 5, 6))
	b.Push()
	b.Push()
	wantPop(t, a, true)
	wantDeep(t, a, 1)
	wantDeep(t, b, 3)
	wantHere(t, a, "x", d(1, 2, 3))
	wantNotFound(t, scope.New(), "x")
	wantDeep(t, scope.New(), 1)
}

func TestPushAndPop(t *testing.T) {
	s := scope.New()
	for range 3 {
		for i := range 5 {
			wantDeep(t, s, i+1)
			s.Push()
		}
		for i := range 5 {
			wantDeep(t, s, 6-i)
			wantPop(t, s, true)
		}
		for range 3 {
			wantPop(t, s, false)
			wantDeep(t, s, 1)
		}
		for range 5 {
			s.Push()
			wantDeep(t, s, 2)
			wantPop(t, s, true)
			wantDeep(t, s, 1)
		}
	}
}

// TestPopOfTheOnlyOne pops the outermost scope, of which the names stay.
func TestPopOfTheOnlyOne(t *testing.T) {
	s := scope.New()
	wantAdd(t, s, "x", d(1, 2, 3), true)
	wantAdd(t, s, "y", d(4, 5, 6), true)
	for range 3 {
		wantPop(t, s, false)
		wantDeep(t, s, 1)
		wantFind(t, s, "x", d(1, 2, 3))
		wantHere(t, s, "x", d(1, 2, 3))
		wantFind(t, s, "y", d(4, 5, 6))
		wantHere(t, s, "y", d(4, 5, 6))
		wantAdd(t, s, "x", d(7, 8, 9), false)
	}
	wantAdd(t, s, "z", d(7, 8, 9), true)
	wantFind(t, s, "z", d(7, 8, 9))
}

// TestAddAgain adds a name that the innermost scope has: nothing is another one.
func TestAddAgain(t *testing.T) {
	s := scope.New()
	for deep := 1; deep <= 3; deep++ {
		mine := d(deep, deep, deep)
		wantAdd(t, s, "x", mine, true)
		wantAdd(t, s, "y", d(9, 9, 9), true)
		for _, other := range []scope.Decl{mine, {}, d(deep+1, deep, deep), d(deep, deep+1, deep), d(deep, deep, deep+1), d(9, 9, 9)} {
			wantAdd(t, s, "x", other, false)
			wantDeep(t, s, deep)
			wantFind(t, s, "x", mine)
			wantHere(t, s, "x", mine)
			wantFind(t, s, "y", d(9, 9, 9))
		}
		s.Push()
	}
	for deep := 3; deep >= 1; deep-- {
		wantPop(t, s, true)
		wantFind(t, s, "x", d(deep, deep, deep))
		wantHere(t, s, "x", d(deep, deep, deep))
	}
	wantPop(t, s, false)
}

// TestAddOfAnOuterName adds a name that outer scopes have, which have theirs again when the inner one goes.
func TestAddOfAnOuterName(t *testing.T) {
	s := scope.New()
	wantAdd(t, s, "x", d(1, 1, 1), true)
	s.Push()
	wantFind(t, s, "x", d(1, 1, 1))
	wantNotHere(t, s, "x")
	wantAdd(t, s, "x", d(2, 2, 2), true)
	wantFind(t, s, "x", d(2, 2, 2))
	wantHere(t, s, "x", d(2, 2, 2))
	s.Push()
	wantFind(t, s, "x", d(2, 2, 2))
	wantNotHere(t, s, "x")
	s.Push()
	wantAdd(t, s, "x", d(1, 1, 1), true)
	wantFind(t, s, "x", d(1, 1, 1))
	wantHere(t, s, "x", d(1, 1, 1))
	wantPop(t, s, true)
	wantFind(t, s, "x", d(2, 2, 2))
	wantNotHere(t, s, "x")
	wantPop(t, s, true)
	wantHere(t, s, "x", d(2, 2, 2))
	wantPop(t, s, true)
	wantFind(t, s, "x", d(1, 1, 1))
	wantHere(t, s, "x", d(1, 1, 1))
	wantAdd(t, s, "x", d(2, 2, 2), false)
	wantPop(t, s, false)
}

// TestAddOfANameThatIsGone adds names that a scope had that is gone.
func TestAddOfANameThatIsGone(t *testing.T) {
	s := scope.New()
	for i := range 4 {
		s.Push()
		wantNotFound(t, s, "x")
		wantNotHere(t, s, "x")
		wantAdd(t, s, "x", d(i, i, i), true)
		wantAdd(t, s, "y", d(i, i, i), true)
		wantFind(t, s, "x", d(i, i, i))
		wantPop(t, s, true)
		wantNotFound(t, s, "x")
		wantNotFound(t, s, "y")
		wantNotHere(t, s, "x")
		wantNotHere(t, s, "y")
	}
	wantAdd(t, s, "x", d(5, 5, 5), true)
	wantHere(t, s, "x", d(5, 5, 5))
	s.Push()
	wantNotFound(t, s, "y")
	s.Push()
	wantAdd(t, s, "y", d(6, 6, 6), true)
	wantPop(t, s, true)
	wantNotFound(t, s, "y")
	wantAdd(t, s, "y", d(7, 7, 7), true)
	wantHere(t, s, "y", d(7, 7, 7))
}

// TestManyOfOneScope has scopes of many names, which go and stay together.
func TestManyOfOneScope(t *testing.T) {
	s := scope.New()
	name := func(i int) string { return fmt.Sprint("n", i) }
	for i := range 1000 {
		wantAdd(t, s, name(i), d(0, i, 0), true)
	}
	s.Push()
	for i := 500; i < 1500; i++ {
		wantAdd(t, s, name(i), d(1, i, 0), true)
	}
	for i := range 1500 {
		if i < 500 {
			wantFind(t, s, name(i), d(0, i, 0))
			wantNotHere(t, s, name(i))
			continue
		}
		wantFind(t, s, name(i), d(1, i, 0))
		wantHere(t, s, name(i), d(1, i, 0))
	}
	wantPop(t, s, true)
	for i := range 1500 {
		if i >= 1000 {
			wantNotFound(t, s, name(i))
			wantNotHere(t, s, name(i))
			continue
		}
		wantFind(t, s, name(i), d(0, i, 0))
		wantHere(t, s, name(i), d(0, i, 0))
	}
}

// TestNames has names of any bytes, each of which is another one than each other.
func TestNames(t *testing.T) {
	s := scope.New()
	l := names()
	for i, name := range l {
		wantNotFound(t, s, name)
		wantAdd(t, s, name, d(1, i, 0), true)
		wantHere(t, s, name, d(1, i, 0))
	}
	s.Push()
	for i, name := range l {
		wantFind(t, s, name, d(1, i, 0))
		wantNotHere(t, s, name)
		wantAdd(t, s, name, d(2, i, 0), true)
		wantAdd(t, s, name, d(3, i, 0), false)
	}
	for i, name := range l {
		wantFind(t, s, name, d(2, i, 0))
		wantHere(t, s, name, d(2, i, 0))
	}
	wantPop(t, s, true)
	for i, name := range l {
		wantHere(t, s, name, d(1, i, 0))
		wantAdd(t, s, strings.Clone(name), d(3, i, 0), false)
		wantFind(t, s, strings.Clone(name), d(1, i, 0))
	}
}

// TestDecls has Decls of any numbers, a zero one among them, each of which a name stands for all the same.
func TestDecls(t *testing.T) {
	for _, file := range numbers() {
		for _, tok := range numbers() {
			for _, kind := range numbers() {
				x := d(file, tok, kind)
				s := scope.New()
				wantAdd(t, s, "x", x, true)
				wantAdd(t, s, "x", d(3, 3, 3), false)
				wantAdd(t, s, "x", scope.Decl{}, false)
				wantHere(t, s, "x", x)
				s.Push()
				wantNotHere(t, s, "x")
				wantFind(t, s, "x", x)
				wantAdd(t, s, "x", scope.Decl{}, true)
				wantFind(t, s, "x", scope.Decl{})
				wantHere(t, s, "x", scope.Decl{})
				s.Push()
				wantFind(t, s, "x", scope.Decl{})
				wantAdd(t, s, "x", x, true)
				wantHere(t, s, "x", x)
				wantPop(t, s, true)
				wantFind(t, s, "x", scope.Decl{})
				wantPop(t, s, true)
				wantFind(t, s, "x", x)
			}
		}
	}
}

// TestManyDeep has a name in each of many scopes, beside one that the outermost one alone has.
func TestManyDeep(t *testing.T) {
	const deep = 300000
	s := scope.New()
	wantAdd(t, s, "outermost", d(1, 0, 0), true)
	for i := 1; i <= deep && !t.Failed(); i++ {
		wantDeep(t, s, i)
		wantNotHere(t, s, "x")
		wantAdd(t, s, "x", d(2, i, 0), true)
		wantAdd(t, s, fmt.Sprint("n", i), d(3, i, 0), true)
		wantFind(t, s, "outermost", d(1, 0, 0))
		wantFind(t, s, "n1", d(3, 1, 0))
		s.Push()
	}
	wantNotHere(t, s, "outermost")
	wantNotHere(t, s, "x")
	wantFind(t, s, "x", d(2, deep, 0))
	for i := deep; i >= 1 && !t.Failed(); i-- {
		wantPop(t, s, true)
		wantDeep(t, s, i)
		wantHere(t, s, "x", d(2, i, 0))
		wantHere(t, s, fmt.Sprint("n", i), d(3, i, 0))
		wantNotFound(t, s, fmt.Sprint("n", i+1))
		wantFind(t, s, "outermost", d(1, 0, 0))
	}
	wantPop(t, s, false)
	wantHere(t, s, "outermost", d(1, 0, 0))
}

// TestEmptyScopes has a name far out, with scopes of no names within.
func TestEmptyScopes(t *testing.T) {
	const deep = 300000
	s := scope.New()
	s.Push()
	wantAdd(t, s, "x", d(1, 2, 3), true)
	for i := 0; i < deep && !t.Failed(); i++ {
		s.Push()
		wantFind(t, s, "x", d(1, 2, 3))
		wantNotHere(t, s, "x")
		wantNotFound(t, s, "y")
	}
	wantDeep(t, s, deep+2)
	for i := 0; i < deep && !t.Failed(); i++ {
		wantPop(t, s, true)
	}
	wantHere(t, s, "x", d(1, 2, 3))
	wantPop(t, s, true)
	wantNotFound(t, s, "x")
	wantDeep(t, s, 1)
}

// TestAskingChangesNothing asks again and again.
func TestAskingChangesNothing(t *testing.T) {
	b := newBoth(t)
	b.add("x", d(1, 1, 1))
	b.push()
	b.add("y", d(2, 2, 2))
	b.push()
	for range 5 {
		b.ask("x", "y", "z", "")
	}
	b.add("z", d(3, 3, 3))
	b.ask("x", "y", "z", "")
	for range 4 {
		b.pop()
		b.ask("x", "y", "z", "")
	}
}

// TestNil calls each method of a nil Scopes, one behind the other.
func TestNil(t *testing.T) {
	var s *scope.Scopes
	for range 3 {
		wantDeep(t, s, 0)
		wantPop(t, s, false)
		wantDeep(t, s, 0)
		s.Push()
		s.Push()
		wantDeep(t, s, 0)
		wantPop(t, s, false)
		for _, name := range names() {
			wantAdd(t, s, name, d(1, 2, 3), false)
			wantAdd(t, s, name, scope.Decl{}, false)
			wantNotFound(t, s, name)
			wantNotHere(t, s, name)
		}
		wantDeep(t, s, 0)
	}
	for _, call := range calls(s) {
		call()
		wantDeep(t, s, 0)
	}
}

// calls are one of each method.
func calls(s *scope.Scopes) []func() {
	return []func(){
		func() { s.Push() },
		func() { s.Pop() },
		func() { s.Add("x", d(1, 2, 3)) },
		func() { s.Find("x") },
		func() { s.Here("x") },
		func() { s.Deep() },
	}
}

// TestZero calls up to four methods of a Scopes that New did not make: none panics.
func TestZero(t *testing.T) {
	count := len(calls(nil))
	for i := range count * count * count * count {
		var s scope.Scopes
		all := calls(&s)
		for n, left := 0, i; n < 4; n, left = n+1, left/count {
			all[left%count]()
		}
	}
	s := new(scope.Scopes)
	s.Push()
	s.Add("x", d(1, 2, 3))
	for range 3 {
		s.Pop()
		s.Find("x")
		s.Here("x")
		s.Deep()
	}
}

// TestAllShortRows takes every row of up to six operations on two names.
func TestAllShortRows(t *testing.T) {
	ops := []func(b *both){
		func(b *both) { b.push() },
		func(b *both) { b.pop() },
		func(b *both) { b.add("x", d(0, len(b.done), 0)) },
		func(b *both) { b.add("y", d(0, len(b.done), 1)) },
	}
	row := make([]int, 0, 6)
	var all func()
	all = func() {
		b := newBoth(t)
		for _, i := range row {
			ops[i](b)
			b.ask("x", "y", "")
		}
		if len(row) == cap(row) {
			return
		}
		for i := range ops {
			row = append(row, i)
			all()
			row = row[:len(row)-1]
		}
	}
	all()
}

// TestStrewn holds long rows of operations against the slow way: some that go up and down, some that go deep.
func TestStrewn(t *testing.T) {
	r := rand.New(rand.NewSource(13))
	pool := []string{"", "a", "b", "ab", "ba", "a\x00", "é", "\xff", "for", "int", "x1", "x2", "x3", strings.Repeat("a", 100)}
	for round := range 300 {
		b := newBoth(t)
		few := pool[:1+r.Intn(len(pool))]
		push, pop := 1+round%4, 1+round%3
		for range 400 {
			switch n := r.Intn(push + pop + 4); {
			case n < push:
				b.push()
			case n < push+pop:
				b.pop()
			default:
				b.add(few[r.Intn(len(few))], d(r.Intn(3)-1, r.Intn(5), r.Intn(2)))
			}
			b.ask(pool...)
		}
		for len(b.slow.scopes) > 1 {
			b.pop()
			b.ask(pool...)
		}
		b.pop()
		b.ask(pool...)
	}
}

// TestTwoAtOnce does strewn things with two Scopes in turn: neither has a part in the other.
func TestTwoAtOnce(t *testing.T) {
	r := rand.New(rand.NewSource(14))
	for range 50 {
		two := []*both{newBoth(t), newBoth(t)}
		for range 400 {
			b := two[r.Intn(2)]
			switch r.Intn(4) {
			case 0:
				b.push()
			case 1:
				b.pop()
			default:
				b.add(string(rune('a'+r.Intn(5))), d(r.Int(), r.Int(), r.Int()))
			}
			two[0].ask("a", "b", "c", "d", "e")
			two[1].ask("a", "b", "c", "d", "e")
		}
	}
}

// TestNothingIsKeptOfWhatIsGone adds long names to a scope that goes: their memory is free again.
func TestNothingIsKeptOfWhatIsGone(t *testing.T) {
	const long, count = 1 << 20, 64
	s := scope.New()
	before := heap()
	s.Push()
	for i := range count {
		wantAdd(t, s, fmt.Sprint(i, strings.Repeat("x", long)), d(i, i, i), true)
	}
	wantPop(t, s, true)
	if after := heap(); after > before+long*count/4 {
		t.Errorf("P13.1: %d bytes are kept of names that are gone", after-before)
	}
	wantDeep(t, s, 1)
}

// heap says how many bytes are in use.
func heap() uint64 {
	var m runtime.MemStats
	runtime.GC()
	runtime.ReadMemStats(&m)
	return m.HeapAlloc
}

// TestSameAgain does the same rows twice: what is answered hangs on nothing else.
func TestSameAgain(t *testing.T) {
	var told [2]string
	for i := range told {
		r := rand.New(rand.NewSource(15))
		s := scope.New()
		var b strings.Builder
		for range 5000 {
			name := fmt.Sprint(r.Intn(50))
			switch r.Intn(5) {
			case 0:
				s.Push()
			case 1:
				fmt.Fprint(&b, s.Pop())
			default:
				fmt.Fprint(&b, s.Add(name, d(r.Intn(9), r.Intn(9), r.Intn(9))))
			}
			name = fmt.Sprint(r.Intn(50))
			x, ok := s.Find(name)
			fmt.Fprint(&b, s.Deep(), x, ok)
			x, ok = s.Here(name)
			fmt.Fprint(&b, x, ok)
		}
		told[i] = b.String()
	}
	if told[0] != told[1] {
		t.Error("P0.5: the same row is answered otherwise")
	}
}
