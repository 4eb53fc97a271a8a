package merge_test

import (
	"math"
	"math/big"
	"math/rand"
	"slices"
	"strings"
	"testing"

	"recension/api"
	"recension/edit"
	"recension/merge"
)

const most, least = math.MaxInt, math.MinInt

func e(at, n int, s string) api.Edit { return api.Edit{At: at, Len: n, Text: s} }

func list(l ...api.Edit) []api.Edit { return l }

// ordered are edits of which each comes ahead of the next one, most of them by one field alone.
func ordered() []api.Edit {
	return list(
		e(least, least, ""), e(least, 0, "z"), e(least, most, "z"),
		e(least+1, least, ""),
		e(-1<<32, 9, "z"), e(-3, 5, "z"), e(-2, 5, "z"), e(-1, 5, "z"),
		e(0, least, "z"), e(0, least+1, "z"), e(0, -1<<32, "z"), e(0, -2, "z"), e(0, -1, "z"),
		e(0, 0, ""), e(0, 0, "\x00"), e(0, 0, "\x00\x00"), e(0, 0, "\x00a"), e(0, 0, "\t"), e(0, 0, "\n"), e(0, 0, " "),
		e(0, 0, "10"), e(0, 0, "9"), e(0, 0, "A"), e(0, 0, "B"), e(0, 0, "_"),
		e(0, 0, "a"), e(0, 0, "a\x00"), e(0, 0, "a b"), e(0, 0, "aB"), e(0, 0, "aa"), e(0, 0, "ab"), e(0, 0, "ab\x00"), e(0, 0, "abc"), e(0, 0, "a\xff"),
		e(0, 0, "b"), e(0, 0, "z"), e(0, 0, "\x7f"), e(0, 0, "\x80"), e(0, 0, "\xc3"), e(0, 0, "é"), e(0, 0, "éa"),
		e(0, 0, "\xed\xa0\x80"), e(0, 0, "\uffff"), e(0, 0, "\U00010000"), e(0, 0, "\xfe"), e(0, 0, "\xff"), e(0, 0, "\xff\x00"), e(0, 0, "\xff\xff"),
		e(0, 1, ""), e(0, 1, "a"), e(0, 2, ""), e(0, 9, ""), e(0, 10, ""), e(0, 1<<31, ""), e(0, 1<<32, ""), e(0, 1<<32+1, ""), e(0, most-1, ""), e(0, most, ""),
		e(1, -5, ""), e(1, 0, ""), e(2, 0, ""), e(9, 0, ""), e(10, 0, ""), e(1<<31, 0, ""), e(1<<32, 0, ""), e(1<<32+1, 0, ""),
		e(most-1, most, "z"),
		e(most, least, ""), e(most, 0, ""), e(most, 0, "a"), e(most, most, ""), e(most, most, "a"),
	)
}

// ahead is the promise's words: by At, then Len, then Text, which is held byte by byte.
func ahead(a, b api.Edit) bool {
	if a.At != b.At {
		return a.At < b.At
	}
	if a.Len != b.Len {
		return a.Len < b.Len
	}
	for i := range min(len(a.Text), len(b.Text)) {
		if a.Text[i] != b.Text[i] {
			return a.Text[i] < b.Text[i]
		}
	}
	return len(a.Text) < len(b.Text)
}

// slowQueue looks at all that are there for each one that goes.
type slowQueue struct{ edits []api.Edit }

func (q *slowQueue) add(x api.Edit) { q.edits = append(q.edits, x) }

func (q *slowQueue) next() (api.Edit, bool) {
	if len(q.edits) == 0 {
		return api.Edit{}, false
	}
	first := 0
	for i := range q.edits {
		if ahead(q.edits[i], q.edits[first]) {
			first = i
		}
	}
	x := q.edits[first]
	q.edits = slices.Delete(q.edits, first, first+1)
	return x, true
}

func slowSort(l []api.Edit) []api.Edit {
	q := slowQueue{slices.Clone(l)}
	var sorted []api.Edit
	for x, ok := q.next(); ok; x, ok = q.next() {
		sorted = append(sorted, x)
	}
	return sorted
}

func end(x api.Edit) *big.Int {
	return new(big.Int).Add(big.NewInt(int64(x.At)), big.NewInt(int64(x.Len)))
}

// apart says whether one of the two ends ahead of where the other one begins.
func apart(a, b api.Edit) bool {
	return end(a).Cmp(big.NewInt(int64(b.At))) < 0 || end(b).Cmp(big.NewInt(int64(a.At))) < 0
}

// slowAll holds each edit against each other one, over numbers that can't wrap.
func slowAll(ls [][]api.Edit) ([]api.Edit, bool) {
	var once []api.Edit
	for _, l := range ls {
		for _, x := range l {
			if !slices.Contains(once, x) {
				once = append(once, x)
			}
		}
	}
	for i, a := range once {
		if a.At < 0 || a.Len < 0 || end(a).Cmp(big.NewInt(most)) > 0 {
			return nil, false
		}
		for _, b := range once[:i] {
			if !apart(a, b) {
				return nil, false
			}
		}
	}
	return slowSort(once), true
}

func wantLen(t *testing.T, q *merge.Queue, want int) {
	t.Helper()
	if got := q.Len(); got != want {
		t.Errorf("P9.1: Len is %d, not %d", got, want)
	}
}

func wantNext(t *testing.T, q *merge.Queue, want api.Edit) {
	t.Helper()
	if got, ok := q.Next(); got != want || !ok {
		t.Errorf("P9.1: Next is %v, %v, not %v", got, ok, want)
	}
}

// wantNone asks twice, since the first asking may not change the second.
func wantNone(t *testing.T, q *merge.Queue) {
	t.Helper()
	for range 2 {
		wantLen(t, q, 0)
		got, ok := q.Next()
		if ok {
			t.Errorf("P9.1: Next of none is %v, true", got)
		}
		if got != (api.Edit{}) {
			t.Errorf("P0.2: Next of none is false and %v", got)
		}
	}
	wantLen(t, q, 0)
}

// wantAllOf takes out all that a Queue has.
func wantAllOf(t *testing.T, q *merge.Queue, want []api.Edit) {
	t.Helper()
	for i, x := range want {
		wantLen(t, q, len(want)-i)
		wantNext(t, q, x)
	}
	wantNone(t, q)
}

func queue(l []api.Edit) *merge.Queue {
	q := &merge.Queue{}
	for _, x := range l {
		q.Add(x)
	}
	return q
}

func wantSort(t *testing.T, l, want []api.Edit) {
	t.Helper()
	if got := merge.Sort(l); !slices.Equal(got, want) {
		t.Errorf("P9.1: Sort(%v) is %v, not %v", l, got, want)
	}
}

func wantAll(t *testing.T, ls [][]api.Edit, want []api.Edit) {
	t.Helper()
	if got, ok := merge.All(ls...); !slices.Equal(got, want) || !ok {
		t.Errorf("P9.1: All(%v) is %v, %v, not %v", ls, got, ok, want)
	}
}

func wantRefused(t *testing.T, ls [][]api.Edit) {
	t.Helper()
	got, ok := merge.All(ls...)
	if ok {
		t.Errorf("P9.1: All(%v) is %v, true", ls, got)
	}
	if got != nil {
		t.Errorf("P9.1: All(%v) is false and %v, not nil", ls, got)
	}
}

// same holds All against the slow way.
func same(t *testing.T, ls ...[]api.Edit) {
	t.Helper()
	if want, ok := slowAll(ls); ok {
		wantAll(t, ls, want)
	} else {
		wantRefused(t, ls)
	}
}

func TestZeroQueue(t *testing.T) {
	var q merge.Queue
	wantNone(t, &q)
	wantNone(t, &merge.Queue{})
	wantNone(t, new(merge.Queue))
	q.Add(e(1, 2, "x"))
	wantAllOf(t, &q, list(e(1, 2, "x")))
}

// TestZeroEdit holds that an edit without anything is one too.
func TestZeroEdit(t *testing.T) {
	q := queue(list(api.Edit{}))
	wantAllOf(t, q, list(api.Edit{}))
	wantAllOf(t, queue(list(api.Edit{}, e(-1, 0, ""), api.Edit{})), list(e(-1, 0, ""), api.Edit{}, api.Edit{}))
}

func TestNilQueue(t *testing.T) {
	var q *merge.Queue
	wantNone(t, q)
	for _, x := range ordered() {
		q.Add(x)
		wantNone(t, q)
	}
	if q != nil {
		t.Error("P9.1: a nil Queue became one")
	}
	wantNone(t, &merge.Queue{})
}

func TestOrderIsOne(t *testing.T) {
	l := ordered()
	for i := range l[1:] {
		if !ahead(l[i], l[i+1]) || ahead(l[i+1], l[i]) {
			t.Errorf("%v does not stand ahead of %v", l[i], l[i+1])
		}
	}
}

// TestTwo takes each two of ordered, in both orders of coming in, and each one twice.
func TestTwo(t *testing.T) {
	l := ordered()
	for j, b := range l {
		for _, a := range l[:j+1] {
			want := list(a, b)
			wantAllOf(t, queue(list(a, b)), want)
			wantAllOf(t, queue(list(b, a)), want)
			wantSort(t, list(a, b), want)
			wantSort(t, list(b, a), want)
			same(t, list(a, b))
			same(t, list(b, a))
			same(t, list(a), list(b))
			same(t, list(b), list(a))
		}
	}
}

// each calls f with l in every order.
func each(l []api.Edit, f func([]api.Edit)) {
	var place func(int)
	place = func(k int) {
		if k == len(l) {
			f(l)
			return
		}
		for i := k; i < len(l); i++ {
			l[k], l[i] = l[i], l[k]
			place(k + 1)
			l[k], l[i] = l[i], l[k]
		}
	}
	place(0)
}

func TestEveryOrderOfComing(t *testing.T) {
	for _, want := range [][]api.Edit{
		list(e(-3, 0, ""), e(1, 1, "z"), e(1, 2, ""), e(5, 0, "a"), e(5, 0, "b"), e(5, 0, "ba"), e(6, 0, "")),
		list(e(2, 2, "x"), e(2, 2, "x"), e(2, 2, "y"), e(2, 2, "y"), e(2, 2, "y"), e(3, 0, "")),
		list(e(least, most, ""), e(-1, 0, "\xff"), e(-1, 0, "\xff\x00"), e(most, least, ""), e(most, most, "")),
	} {
		each(slices.Clone(want), func(l []api.Edit) {
			wantAllOf(t, queue(l), want)
			wantSort(t, l, want)
		})
	}
}

func TestSameEditSeveralTimes(t *testing.T) {
	x, y := e(5, 0, "a"), e(5, 0, "b")
	q := queue(list(x, x, y, x, y))
	wantAllOf(t, q, list(x, x, x, y, y))
	q.Add(x)
	wantNext(t, q, x)
	q.Add(x)
	q.Add(x)
	wantAllOf(t, q, list(x, x))
}

// TestComingBetween holds that one that comes later stands ahead of what is there, if it is the first.
func TestComingBetween(t *testing.T) {
	q := &merge.Queue{}
	q.Add(e(3, 0, ""))
	q.Add(e(1, 0, ""))
	wantNext(t, q, e(1, 0, ""))
	q.Add(e(2, 0, ""))
	wantLen(t, q, 2)
	wantNext(t, q, e(2, 0, ""))
	q.Add(e(0, 9, "x"))
	q.Add(e(4, 0, ""))
	q.Add(e(0, 9, ""))
	wantAllOf(t, q, list(e(0, 9, ""), e(0, 9, "x"), e(3, 0, ""), e(4, 0, "")))
}

func TestEmptiedAndUsedAgain(t *testing.T) {
	q := &merge.Queue{}
	l := ordered()
	for n := range len(l) {
		for _, x := range slices.Backward(l[:n]) {
			q.Add(x)
		}
		wantAllOf(t, q, l[:n])
	}
}

// TestManyInWhateverOrder holds a Queue against the slow one, Len behind each call.
func TestManyInWhateverOrder(t *testing.T) {
	r := rand.New(rand.NewSource(9))
	for round := range 60 {
		q, slow := &merge.Queue{}, &slowQueue{}
		// Rounds that mostly take, that do both alike, and that mostly put in.
		puts := 3 + round%5
		for range 400 {
			if r.Intn(10) < puts {
				x := strewnEdit(r, 6)
				q.Add(x)
				slow.add(x)
			} else {
				want, there := slow.next()
				if got, ok := q.Next(); got != want || ok != there {
					t.Fatalf("P9.1: Next is %v, %v, not %v, %v", got, ok, want, there)
				}
			}
			wantLen(t, q, len(slow.edits))
		}
		wantAllOf(t, q, slowSort(slow.edits))
	}
}

// strewnEdit makes edits that are often the same in a field, and now and then huge ones.
func strewnEdit(r *rand.Rand, n int) api.Edit {
	texts := []string{"", "a", "ab", "b", "a\xff", "\x00"}
	x := e(r.Intn(n)-1, r.Intn(4)-1, texts[r.Intn(len(texts))])
	switch r.Intn(40) {
	case 0:
		x.At = []int{least, most}[r.Intn(2)]
	case 1:
		x.Len = []int{least, most}[r.Intn(2)]
	}
	return x
}

func TestTwoQueuesBesideEachOther(t *testing.T) {
	a, b := &merge.Queue{}, &merge.Queue{}
	for i := range 20 {
		a.Add(e(20-i, 0, "a"))
		wantLen(t, b, i)
		b.Add(e(i, 0, "b"))
		wantLen(t, a, i+1)
	}
	for i := range 10 {
		wantNext(t, a, e(i+1, 0, "a"))
		wantLen(t, b, 20)
	}
	a.Add(e(0, 0, "new"))
	for i := range 20 {
		wantNext(t, b, e(i, 0, "b"))
	}
	wantNone(t, b)
	wantNext(t, a, e(0, 0, "new"))
	for i := 11; i <= 20; i++ {
		wantNext(t, a, e(i, 0, "a"))
	}
	wantNone(t, a)
}

// TestQueueOfMany holds far more than a file's edits: there is no limit.
func TestQueueOfMany(t *testing.T) {
	const n = 100_000
	up, down, mixed := &merge.Queue{}, &merge.Queue{}, &merge.Queue{}
	for i := range n {
		up.Add(e(i, 0, ""))
		down.Add(e(n-1-i, 0, ""))
		mixed.Add(e(i*77_777%n, 0, ""))
	}
	for i := range n {
		for _, q := range []*merge.Queue{up, down, mixed} {
			if got, ok := q.Next(); got != e(i, 0, "") || !ok || q.Len() != n-1-i {
				t.Fatalf("P9.1: the %dth Next of %d is %v, %v, Len %d", i, n, got, ok, q.Len())
			}
		}
	}
}

func TestSort(t *testing.T) {
	wantSort(t, nil, nil)
	wantSort(t, []api.Edit{}, nil)
	for _, x := range ordered() {
		wantSort(t, list(x), list(x))
	}
	want := ordered()
	wantSort(t, ordered(), want)
	other := ordered()
	slices.Reverse(other)
	wantSort(t, other, want)
	wantSort(t, list(e(5, 0, "b"), e(1, 2, ""), e(5, 0, "a"), e(1, 1, "z"), e(-3, 0, ""), e(5, 0, "a")),
		list(e(-3, 0, ""), e(1, 1, "z"), e(1, 2, ""), e(5, 0, "a"), e(5, 0, "a"), e(5, 0, "b")))
}

// TestSortKeepsAll holds that the same edit stays as often as it stands there, whether or not a text takes it.
func TestSortKeepsAll(t *testing.T) {
	x := e(2, 2, "x")
	for n := range 40 {
		l := slices.Repeat(list(x), n)
		wantSort(t, l, l)
	}
	var twice []api.Edit
	for _, x := range ordered() {
		twice = append(twice, x, x)
	}
	wantSort(t, append(ordered(), ordered()...), twice)
}

func TestSortOfStrewnLists(t *testing.T) {
	r := rand.New(rand.NewSource(10))
	for range 800 {
		l := make([]api.Edit, r.Intn(70))
		for i := range l {
			l[i] = strewnEdit(r, 12)
		}
		wantSort(t, l, slowSort(l))
	}
	const n = 100_000
	l, want := make([]api.Edit, n), make([]api.Edit, n)
	for i := range n {
		l[i], want[i] = e(0, i*77_777%n, ""), e(0, i, "")
	}
	if !slices.Equal(merge.Sort(l), want) {
		t.Errorf("P9.1: Sort of %d edits", n)
	}
}

func TestAllOfNothing(t *testing.T) {
	wantAll(t, nil, nil)
	wantAll(t, [][]api.Edit{}, nil)
	wantAll(t, [][]api.Edit{nil}, nil)
	wantAll(t, [][]api.Edit{{}}, nil)
	wantAll(t, [][]api.Edit{nil, {}, nil, {}}, nil)
	if l, ok := merge.All(); len(l) != 0 || !ok {
		t.Errorf("P9.1: All() is %v, %v", l, ok)
	}
}

func TestAll(t *testing.T) {
	a, b, c, d := e(0, 2, ""), e(4, 0, "y"), e(7, 1, "x"), e(9, 3, "long text")
	want := list(a, b, c, d)
	for _, ls := range [][][]api.Edit{
		{{a, b, c, d}},
		{{d, c, b, a}},
		{{a}, {b}, {c}, {d}},
		{{d}, {c}, {b}, {a}},
		{{c, a}, nil, {b, d}},
		{nil, {b, d}, {}, {a, c}, nil},
		{{a, b, c}, {b, c, d}},
		{{d, a}, {a, b, c, d}, {c, c}, {a}},
		{{a, a, b, b, c, c, d, d}},
		{{a, b, c, d, a, b, c, d}},
		{{d, c, b, a}, {a, b, c, d}, {b, a, d, c}},
	} {
		wantAll(t, ls, want)
	}
	for _, x := range want {
		wantAll(t, [][]api.Edit{{x}}, list(x))
		wantAll(t, [][]api.Edit{{x, x}}, list(x))
		wantAll(t, [][]api.Edit{{x}, {x}}, list(x))
		wantAll(t, [][]api.Edit{{x}, nil, {x, x, x}, {x}}, list(x))
	}
}

// TestAllPutsTogether holds pairs on both sides of what a text takes, in one list and in two.
func TestAllPutsTogether(t *testing.T) {
	for _, c := range []struct {
		what string
		a, b api.Edit
		ok   bool
	}{
		{"overlap", e(0, 2, ""), e(1, 1, ""), false},
		{"overlap by all but a byte", e(3, 4, "x"), e(4, 4, "x"), false},
		{"one within the other", e(0, 6, ""), e(2, 1, ""), false},
		{"at one place, of other lengths", e(2, 1, "x"), e(2, 2, "x"), false},
		{"at one place, of other texts", e(2, 1, "x"), e(2, 1, "y"), false},
		{"at one place, one text begins the other", e(2, 1, "x"), e(2, 1, "xy"), false},
		{"at one place, texts that are no text", e(2, 1, "\xff"), e(2, 1, "\xfe"), false},
		{"touch", e(0, 2, ""), e(2, 1, ""), false},
		{"touch, one puts in ahead", e(2, 0, "x"), e(2, 3, ""), false},
		{"touch, one puts in behind", e(0, 2, ""), e(2, 0, "x"), false},
		{"put in at one place", e(3, 0, "a"), e(3, 0, "b"), false},
		{"put in at one place, nothing and something", e(3, 0, ""), e(3, 0, "b"), false},
		{"put in at the beginning", e(0, 0, "a"), e(0, 0, "b"), false},
		{"put in at the greatest place", e(most, 0, "a"), e(most, 0, "b"), false},
		{"one byte between", e(0, 2, ""), e(3, 1, ""), true},
		{"one byte between two that put in", e(3, 0, "a"), e(4, 0, "a"), true},
		{"one byte between at the greatest place", e(5, most-6, ""), e(most, 0, "x"), true},
		{"touch at the greatest place", e(5, most-5, ""), e(most, 0, "x"), false},
		{"the second ends at the greatest place", e(0, 1, ""), e(2, most-2, ""), true},
		{"the second ends a byte behind it", e(0, 1, ""), e(2, most-1, ""), false},
		{"the first's end would wrap", e(3, most, ""), e(5, 1, ""), false},
		{"both ends would wrap", e(most, most, ""), e(most-5, most, ""), false},
		{"the first below 0", e(-1, 0, ""), e(5, 1, ""), false},
		{"the first of a length below 0", e(2, -1, ""), e(5, 1, ""), false},
		{"the second of a length below 0", e(2, 1, ""), e(5, -1, ""), false},
	} {
		for _, ls := range [][][]api.Edit{{{c.a, c.b}}, {{c.b, c.a}}, {{c.a}, {c.b}}, {{c.b}, {c.a}}, {{c.b, c.a}, nil, {c.a, c.b}}} {
			if got, ok := merge.All(ls...); ok != c.ok {
				t.Errorf("P9.1, %s: All(%v) is %v, %v", c.what, ls, got, ok)
			}
			same(t, ls...)
		}
	}
}

func TestAllOfOneThatNoTextTakes(t *testing.T) {
	for _, x := range list(
		e(-1, 0, ""), e(-1, 1, ""), e(-1, 2, ""), e(-5, 9, "x"), e(least, 0, ""), e(least, most, ""), e(least, least, ""),
		e(0, -1, ""), e(1, -1, ""), e(9, -5, "x"), e(0, least, ""), e(most, least, ""), e(most, -1, ""), e(-1, -1, ""),
		e(1, most, ""), e(most, 1, ""), e(most, most, ""), e(2, most-1, ""), e(1<<62, 1<<62, ""),
	) {
		wantRefused(t, [][]api.Edit{{x}})
		wantRefused(t, [][]api.Edit{{x, x}})
		wantRefused(t, [][]api.Edit{{x}, {x}})
		wantRefused(t, [][]api.Edit{nil, {e(20, 1, "")}, {x}})
		wantRefused(t, [][]api.Edit{{x, e(20, 1, "")}, {}})
	}
}

// TestAllUpToTheGreatestPlace holds that there is a text for what ends there, however long it would be.
func TestAllUpToTheGreatestPlace(t *testing.T) {
	for _, x := range list(e(0, most, ""), e(1, most-1, "x"), e(most, 0, "x"), e(most, 0, ""), e(most-1, 1, ""), e(1<<62, 1<<62-1, "")) {
		wantAll(t, [][]api.Edit{{x}}, list(x))
		wantAll(t, [][]api.Edit{{x, x}, {x}}, list(x))
	}
	wantAll(t, [][]api.Edit{{e(most, 0, "x")}, {e(most-2, 1, "")}, {e(0, most-3, "")}}, list(e(0, most-3, ""), e(most-2, 1, ""), e(most, 0, "x")))
}

// TestAllShortLists takes every three of some near edits, in lists cut in every way.
func TestAllShortLists(t *testing.T) {
	var ones []api.Edit
	for at := -1; at <= 4; at++ {
		for length := -1; length <= 2; length++ {
			ones = append(ones, e(at, length, ""))
		}
		ones = append(ones, e(at, 0, "x"))
	}
	for _, a := range ones {
		same(t, list(a))
		for _, b := range ones {
			for _, c := range ones {
				same(t, list(a, b, c))
				same(t, list(a), list(b, c))
				same(t, list(a, b), list(c))
			}
		}
	}
}

// strewnLists makes lists that a text takes, most times, with some edits in several of them.
func strewnLists(r *rand.Rand) [][]api.Edit {
	ls := make([][]api.Edit, 1+r.Intn(5))
	at := r.Intn(3)
	for range r.Intn(25) {
		x := e(at, r.Intn(4), strewnEdit(r, 1).Text)
		for range 1 + r.Intn(3) {
			k := r.Intn(len(ls))
			ls[k] = slices.Insert(ls[k], r.Intn(len(ls[k])+1), x)
		}
		at += x.Len + 1 + r.Intn(3)
		if r.Intn(20) == 0 {
			at--
		}
	}
	return ls
}

func TestAllOfStrewnLists(t *testing.T) {
	r := rand.New(rand.NewSource(11))
	taken, refused := 0, 0
	for range 2000 {
		ls := strewnLists(r)
		if _, ok := slowAll(ls); ok {
			taken++
		} else {
			refused++
		}
		same(t, ls...)
	}
	if taken < 500 || refused < 100 {
		t.Errorf("%d are taken and %d refused: too few of one", taken, refused)
	}
}

// TestAllIsForEdit holds that edit takes what All answers, and makes of it what the lists say.
func TestAllIsForEdit(t *testing.T) {
	all, ok := merge.All(list(e(6, 0, ">"), e(2, 2, "")), list(e(0, 1, "XX"), e(6, 0, ">")))
	if !ok || !edit.May(all, 6) || edit.May(all, 5) {
		t.Errorf("P9.1: All is %v, %v", all, ok)
	}
	if got, ok := edit.Apply("abcdef", all); got != "XXbef>" || !ok {
		t.Errorf("P9.1: All makes %q, %v", got, ok)
	}
}

func TestAllOfMany(t *testing.T) {
	const n = 50_000
	one, two, want := make([]api.Edit, n), make([]api.Edit, n), make([]api.Edit, n)
	for i := range n {
		want[i] = e(2*i, 1, "x")
		one[n-1-i] = want[i]
		two[i*7_777%n] = want[i]
	}
	got, ok := merge.All(one, two)
	if !slices.Equal(got, want) || !ok {
		t.Errorf("P9.1: All of %d edits has %d, %v", n, len(got), ok)
	}
	ls := make([][]api.Edit, n)
	for i := range n {
		ls[i] = one[i : i+1]
	}
	got, ok = merge.All(ls...)
	if !slices.Equal(got, want) || !ok {
		t.Errorf("P9.1: All of %d lists has %d, %v", n, len(got), ok)
	}
	for _, i := range []int{0, n / 2, n - 1} {
		if got, ok := merge.All(one, list(e(2*i, 1, "y")), two); ok || got != nil {
			t.Errorf("P9.1: All with two edits at %d is %v, %v", 2*i, len(got), ok)
		}
	}
	long := strings.Repeat("a", 1<<20)
	same(t, list(e(3, 0, long+"b")), list(e(0, 1, long+"a")), list(e(3, 0, long+"b")))
	same(t, list(e(3, 0, long+"b")), list(e(3, 0, long+"a")))
}

// roomy answers l with spare room that is filled.
func roomy(l []api.Edit) []api.Edit {
	room := slices.Clone(l)
	for range 5 {
		room = append(room, e(-9, -9, "spare"))
	}
	return room[:len(l)]
}

func overwrite(l []api.Edit) {
	l = l[:cap(l)]
	for i := range l {
		l[i] = e(-5, -5, "over")
	}
}

// given are lists that a text takes together, one alone, none, and not at all.
func given() [][][]api.Edit {
	return [][][]api.Edit{
		{},
		{nil},
		{{}, {}},
		{{e(7, 1, "x")}},
		{{e(0, 2, ""), e(7, 1, "x")}},
		{{e(7, 1, "x"), e(0, 2, "")}, nil, {e(4, 0, "y"), e(7, 1, "x")}},
		{{e(7, 1, "x"), e(7, 1, "x"), e(0, 2, ""), e(0, 2, "")}},
		{{e(7, 1, "x"), e(0, 2, "")}, {e(1, 0, "y")}},
		{{e(-1, 0, "")}, {e(5, -1, "y"), e(1, most, "")}},
	}
}

func roomyLists(ls [][]api.Edit) [][]api.Edit {
	room := make([][]api.Edit, 0, len(ls)+1)
	for _, l := range ls {
		room = append(room, roomy(l))
	}
	return append(room, list(e(-8, -8, "spare")))[:len(ls)]
}

// TestListsStay hands lists in with spare room, and looks at both afterwards.
func TestListsStay(t *testing.T) {
	for _, ls := range given() {
		room, want := roomyLists(ls), roomyLists(ls)
		merge.All(room...)
		for _, l := range room {
			merge.Sort(l)
		}
		room, want = room[:len(ls)+1], want[:len(ls)+1]
		for i := range want {
			full := len(want[i])
			if i < len(ls) {
				full += 5
			}
			if len(room[i]) != len(want[i]) || !slices.Equal(room[i][:full], want[i][:full]) {
				t.Errorf("P0.3: of the lists %v the %dth was changed: %v", ls, i, room[i][:full])
			}
		}
	}
}

// TestAnswersOfAllAreNew writes over what was answered and what was handed in, spare room too.
func TestAnswersOfAllAreNew(t *testing.T) {
	for _, ls := range given() {
		want, wantOK := slowAll(ls)
		room := roomyLists(ls)
		first, _ := merge.All(room...)
		second, ok := merge.All(room...)
		overwrite(first)
		if !slices.Equal(second, want) || ok != wantOK {
			t.Errorf("P0.3: what All(%v) answered was changed through another answer", ls)
		}
		same(t, room...)
		for i, l := range room {
			if !slices.Equal(l, ls[i]) {
				t.Errorf("P0.3: the lists %v were changed through an answer", ls)
			}
			overwrite(l)
			room[i] = nil
		}
		if !slices.Equal(second, want) {
			t.Errorf("P0.3: what All(%v) answered was changed through an argument", ls)
		}
		same(t, ls...)
	}
}

func TestAnswersOfSortAreNew(t *testing.T) {
	for _, ls := range given() {
		for _, l := range ls {
			want, room := slowSort(l), roomy(l)
			first, second := merge.Sort(room), merge.Sort(room)
			overwrite(first)
			if !slices.Equal(second, want) {
				t.Errorf("P0.3: what Sort(%v) answered was changed through another answer", l)
			}
			if !slices.Equal(room, l) {
				t.Errorf("P0.3: the list %v was changed through an answer", l)
			}
			wantSort(t, room, want)
			overwrite(room)
			if !slices.Equal(second, want) {
				t.Errorf("P0.3: what Sort(%v) answered was changed through its argument", l)
			}
			wantSort(t, l, want)
		}
	}
}

// TestSortedListsAreCopiedToo holds that a list with nothing to do is still no answer.
func TestSortedListsAreCopiedToo(t *testing.T) {
	l := list(e(0, 1, "a"), e(2, 1, "b"))
	for _, answer := range [][]api.Edit{merge.Sort(l), first(merge.All(l)), first(merge.All(nil, l)), first(merge.All(l, nil))} {
		overwrite(answer)
	}
	if !slices.Equal(l, list(e(0, 1, "a"), e(2, 1, "b"))) {
		t.Errorf("P0.3: the list was changed through an answer: %v", l)
	}
}

func first(l []api.Edit, _ bool) []api.Edit { return l }

func TestSameAnswerAgain(t *testing.T) {
	q := queue(list(e(4, 0, "y"), e(0, 2, "")))
	for _, ls := range given() {
		merge.All(ls...)
		for _, l := range ls {
			merge.Sort(l)
			queue(l).Next()
		}
		wantLen(t, q, 2)
		wantSort(t, list(e(4, 0, "y"), e(0, 2, "")), list(e(0, 2, ""), e(4, 0, "y")))
		wantAll(t, [][]api.Edit{{e(4, 0, "y")}, {e(0, 2, "")}}, list(e(0, 2, ""), e(4, 0, "y")))
	}
	wantAllOf(t, q, list(e(0, 2, ""), e(4, 0, "y")))
}

// Any bytes and numbers at all may come in; run with -fuzz to look further.
func FuzzAll(f *testing.F) {
	f.Add(0, 1, "XX", 2, 2, "", 6, 0, "x")
	f.Add(most, most, "\xff", least, -1, "x", 1, most-1, "\x00")
	f.Fuzz(func(t *testing.T, at1, len1 int, text1 string, at2, len2 int, text2 string, at3, len3 int, text3 string) {
		l := list(e(at1, len1, text1), e(at2, len2, text2), e(at3, len3, text3), e(at1, len1, text1))
		for n := range len(l) + 1 {
			want := slowSort(l[:n])
			wantSort(t, l[:n], want)
			wantAllOf(t, queue(l[:n]), want)
			same(t, l[:n], l[n:])
			same(t, l[:n])
		}
	})
}
