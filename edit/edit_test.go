package edit_test

import (
	"fmt"
	"math"
	"math/big"
	"math/rand"
	"slices"
	"strings"
	"testing"

	"recension/api"
	"recension/edit"
)

func e(at, n int, s string) api.Edit { return api.Edit{At: at, Len: n, Text: s} }

func list(l ...api.Edit) []api.Edit { return l }

// far are numbers whose sums wrap, or that are no place of any text.
func far() []int {
	return []int{math.MinInt, math.MinInt + 1, math.MinInt32, -2, -1, 1 << 31, 1<<32 + 1, 1 << 62, math.MaxInt - 1, math.MaxInt}
}

// slowMay is the promise's words, one by one, over numbers that can't wrap.
func slowMay(l []api.Edit, n int) bool {
	for i, x := range l {
		if x.At < 0 || x.Len < 0 {
			return false
		}
		end := new(big.Int).Add(big.NewInt(int64(x.At)), big.NewInt(int64(x.Len)))
		if end.Cmp(big.NewInt(int64(n))) > 0 {
			return false
		}
		if i+1 < len(l) && end.Cmp(big.NewInt(int64(l[i+1].At))) >= 0 {
			return false
		}
	}
	return true
}

// slowApply makes the last edit first, so that the places of the others still hold.
func slowApply(s string, l []api.Edit) string {
	for _, x := range slices.Backward(l) {
		s = s[:x.At] + x.Text + s[x.At+x.Len:]
	}
	return s
}

// slowBack finds each place by making the edits ahead of it alone.
func slowBack(s string, l []api.Edit) []api.Edit {
	var back []api.Edit
	for i, x := range l {
		back = append(back, e(len(slowApply(s[:x.At], l[:i])), len(x.Text), s[x.At:x.At+x.Len]))
	}
	return back
}

// short keeps what a fault tells readable.
func short(s string) string {
	if len(s) > 60 {
		return fmt.Sprintf("%q.. (%d bytes)", s[:60], len(s))
	}
	return fmt.Sprintf("%q", s)
}

func wantMay(t *testing.T, l []api.Edit, n int, want bool) {
	t.Helper()
	if got := edit.May(l, n); got != want {
		t.Errorf("P8.1: May(%v, %d) is %v", l, n, got)
	}
}

// wantNot holds a list that may not be made in s.
func wantNot(t *testing.T, s string, l []api.Edit) {
	t.Helper()
	wantMay(t, l, len(s), false)
	got, ok := edit.Apply(s, l)
	if ok {
		t.Errorf("P8.1: Apply(%s, %v) is true", short(s), l)
	}
	if got != "" {
		t.Errorf("P0.2: Apply(%s, %v) is false and %s", short(s), l, short(got))
	}
	if back := edit.Back(s, l); back != nil {
		t.Errorf("P8.1: Back(%s, %v) is %v, not nil", short(s), l, back)
	}
}

// wantText holds a list that makes want of s, and the way back from it.
func wantText(t *testing.T, s string, l []api.Edit, want string) {
	t.Helper()
	wantMay(t, l, len(s), true)
	got, ok := edit.Apply(s, l)
	if got != want || !ok {
		t.Errorf("P8.1: Apply(%s, %v) is %s, %v, not %s", short(s), l, short(got), ok, short(want))
	}
	back := edit.Back(s, l)
	if len(back) != len(l) {
		t.Errorf("P8.1: Back(%s, %v) has %d edits", short(s), l, len(back))
	}
	again, ok := edit.Apply(want, back)
	if again != s || !ok {
		t.Errorf("P8.1: Back(%s, %v) is %v, which makes %s, %v of %s", short(s), l, back, short(again), ok, short(want))
	}
	// The way back from the way back is the way there.
	if there := edit.Back(want, back); !slices.Equal(there, l) {
		t.Errorf("P8.1: Back of Back(%s, %v) is %v", short(s), l, there)
	}
}

// same holds the calls against the slow ways.
func same(t *testing.T, s string, l []api.Edit) {
	t.Helper()
	if !slowMay(l, len(s)) {
		wantNot(t, s, l)
		return
	}
	wantText(t, s, l, slowApply(s, l))
	wantBack(t, s, l, slowBack(s, l))
}

func wantBack(t *testing.T, s string, l, want []api.Edit) {
	t.Helper()
	if got := edit.Back(s, l); !slices.Equal(got, want) {
		t.Errorf("P8.1: Back(%s, %v) is %v, not %v", short(s), l, got, want)
	}
}

// wantEq asks both ways round.
func wantEq(t *testing.T, a, b []api.Edit, want bool) {
	t.Helper()
	if edit.Eq(a, b) != want || edit.Eq(b, a) != want {
		t.Errorf("P8.1: Eq(%v, %v) is %v, not %v", a, b, !want, want)
	}
}

func TestMayOfNoEdits(t *testing.T) {
	for _, n := range append([]int{0, 1, 2, 6, 2000, 2001}, far()...) {
		wantMay(t, nil, n, true)
		wantMay(t, []api.Edit{}, n, true)
	}
}

// TestMayOfOne takes each place and each length, some beyond the text on both sides.
func TestMayOfOne(t *testing.T) {
	for n := range 8 {
		for at := -2; at <= n+2; at++ {
			for length := -2; length <= n+3; length++ {
				wantMay(t, list(e(at, length, "x")), n, at >= 0 && length >= 0 && at+length <= n)
			}
		}
	}
	wantMay(t, list(e(0, 6, "")), 6, true)
	wantMay(t, list(e(0, 7, "")), 6, false)
	wantMay(t, list(e(4, 2, "")), 6, true)
	wantMay(t, list(e(4, 3, "")), 6, false)
	wantMay(t, list(e(6, 0, "x")), 6, true)
	wantMay(t, list(e(6, 1, "x")), 6, false)
	wantMay(t, list(e(7, 0, "x")), 6, false)
	wantMay(t, list(e(7, -1, "x")), 6, false)
	wantMay(t, list(e(-1, 1, "x")), 6, false)
}

func TestMayOfTwo(t *testing.T) {
	for _, c := range []struct {
		what string
		l    []api.Edit
		want bool
	}{
		{"overlap", list(e(0, 3, ""), e(2, 1, "")), false},
		{"the second within the first", list(e(0, 6, ""), e(2, 1, "")), false},
		{"both the same", list(e(2, 2, "x"), e(2, 2, "x")), false},
		{"touch", list(e(0, 1, ""), e(1, 1, "")), false},
		{"touch, one puts in ahead", list(e(2, 0, "x"), e(2, 2, "")), false},
		{"touch, one puts in behind", list(e(2, 2, ""), e(4, 0, "x")), false},
		{"one byte between", list(e(0, 1, ""), e(2, 1, "")), true},
		{"one byte between two that put in", list(e(2, 0, "x"), e(3, 0, "y")), true},
		{"one byte between, up to both ends", list(e(0, 3, ""), e(4, 2, "")), true},
		{"two bytes between", list(e(0, 1, ""), e(3, 1, "")), true},
		{"the other order", list(e(3, 1, ""), e(0, 1, "")), false},
		{"the other order, both put in", list(e(3, 0, "x"), e(2, 0, "y")), false},
		{"put in at one place", list(e(2, 0, "x"), e(2, 0, "y")), false},
		{"put in at the beginning", list(e(0, 0, "x"), e(0, 0, "y")), false},
		{"put in at the end", list(e(6, 0, "x"), e(6, 0, "y")), false},
		{"nothing at one place", list(e(2, 0, ""), e(2, 0, "")), false},
		{"at both ends", list(e(0, 0, "x"), e(6, 0, "y")), true},
		{"the second behind the text", list(e(0, 1, "x"), e(7, 0, "y")), false},
		{"the second ends behind the text", list(e(0, 1, "x"), e(5, 2, "y")), false},
		{"the first below 0", list(e(-1, 0, "x"), e(2, 1, "y")), false},
		{"the first of a length below 0", list(e(3, -2, "x"), e(5, 1, "y")), false},
		{"the second of a length below 0", list(e(0, 1, "x"), e(3, -1, "y")), false},
	} {
		if got := edit.May(c.l, 6); got != c.want {
			t.Errorf("P8.1, %s: May(%v, 6) is %v", c.what, c.l, got)
		}
		same(t, "abcdef", c.l)
	}
}

// TestMayLooksAtEach puts a fault at each place of a long list.
func TestMayLooksAtEach(t *testing.T) {
	const count = 50
	good := make([]api.Edit, count)
	for i := range good {
		good[i] = e(2*i, 1, "x")
	}
	const n = 2*count - 1
	wantMay(t, good, n, true)
	wantMay(t, good, n-1, false)
	for i := range good {
		for _, wrong := range []api.Edit{e(2*i-1, 0, ""), e(2*i, -1, ""), e(2*i, 2, ""), e(-1, 0, ""), e(n, 1, ""), e(math.MaxInt, 1, "")} {
			l := slices.Clone(good)
			l[i] = wrong
			wantMay(t, l, n, false)
		}
	}
}

func TestMayOfNothingAndLess(t *testing.T) {
	wantMay(t, list(e(0, 0, "x")), 0, true)
	wantMay(t, list(e(0, 0, "")), 0, true)
	wantMay(t, list(e(0, 1, "")), 0, false)
	wantMay(t, list(e(1, 0, "")), 0, false)
	wantMay(t, list(e(0, 0, "x"), e(0, 0, "y")), 0, false)
	for _, n := range []int{-1, -2, -6, math.MinInt32, math.MinInt + 1, math.MinInt} {
		for _, at := range append([]int{0, 1, n}, far()...) {
			for _, length := range append([]int{0, 1, n}, far()...) {
				wantMay(t, list(e(at, length, "")), n, false)
			}
		}
	}
}

// TestMayDoesNotWrap pairs the greatest and least numbers in every field, for texts of each length.
func TestMayDoesNotWrap(t *testing.T) {
	numbers := append([]int{0, 1, 5, 6}, far()...)
	lengths := append([]int{math.MaxInt - 5}, numbers...)
	var ones []api.Edit
	for _, at := range numbers {
		for _, length := range lengths {
			ones = append(ones, e(at, length, ""))
		}
	}
	for _, n := range lengths {
		for _, a := range ones {
			wantMay(t, list(a), n, slowMay(list(a), n))
			for _, b := range ones {
				wantMay(t, list(a, b), n, slowMay(list(a, b), n))
			}
		}
	}
	const most = math.MaxInt
	wantMay(t, list(e(0, most, "")), most, true)
	wantMay(t, list(e(0, most, "")), most-1, false)
	wantMay(t, list(e(most, 0, "")), most, true)
	wantMay(t, list(e(most, 1, "")), most, false)
	wantMay(t, list(e(most, most, "")), most, false)
	wantMay(t, list(e(1, most, "")), most, false)
	wantMay(t, list(e(5, most-5, ""), e(0, 0, "")), most, false)
	wantMay(t, list(e(5, most-5, ""), e(most, 0, "")), most, false)
	wantMay(t, list(e(5, most-6, ""), e(most, 0, "")), most, true)
}

func TestWrongNumbersInATextsEdits(t *testing.T) {
	for _, s := range []string{"", "a", "abcdef"} {
		for _, n := range far() {
			wantNot(t, s, list(e(n, 0, "x")))
			wantNot(t, s, list(e(0, n, "x")))
			wantNot(t, s, list(e(n, n, "x")))
			wantNot(t, s, list(e(n, -n, "x")))
			wantNot(t, s, list(e(0, 0, "x"), e(n, 0, "y")))
			wantNot(t, s, list(e(0, 0, "x"), e(1, n, "y")))
		}
	}
}

func TestApplyAndBack(t *testing.T) {
	s := "abcdef"
	for _, c := range []struct {
		l    []api.Edit
		want string
		back []api.Edit
	}{
		{nil, "abcdef", nil},
		{list(e(0, 0, "x")), "xabcdef", list(e(0, 1, ""))},
		{list(e(0, 1, "x")), "xbcdef", list(e(0, 1, "a"))},
		{list(e(0, 2, "")), "cdef", list(e(0, 0, "ab"))},
		{list(e(3, 0, "xyz")), "abcxyzdef", list(e(3, 3, ""))},
		{list(e(2, 2, "x")), "abxef", list(e(2, 1, "cd"))},
		{list(e(2, 3, "")), "abf", list(e(2, 0, "cde"))},
		{list(e(6, 0, "x")), "abcdefx", list(e(6, 1, ""))},
		{list(e(5, 1, "xy")), "abcdexy", list(e(5, 2, "f"))},
		{list(e(4, 2, "")), "abcd", list(e(4, 0, "ef"))},
		{list(e(0, 6, "")), "", list(e(0, 0, "abcdef"))},
		{list(e(0, 6, "all new")), "all new", list(e(0, 7, "abcdef"))},
		{list(e(3, 0, "")), "abcdef", list(e(3, 0, ""))},
		{list(e(1, 2, "bc")), "abcdef", list(e(1, 2, "bc"))},
		{list(e(0, 0, "<"), e(3, 0, "|"), e(6, 0, ">")), "<abc|def>", list(e(0, 1, ""), e(4, 1, ""), e(8, 1, ""))},
		{list(e(0, 1, ""), e(2, 1, ""), e(4, 2, "")), "bd", list(e(0, 0, "a"), e(1, 0, "c"), e(2, 0, "ef"))},
		{list(e(0, 1, "XX"), e(2, 2, ""), e(5, 0, "-")), "XXbe-f", list(e(0, 2, "a"), e(3, 0, "cd"), e(4, 1, ""))},
		{list(e(0, 0, ""), e(1, 0, ""), e(2, 0, "")), "abcdef", list(e(0, 0, ""), e(1, 0, ""), e(2, 0, ""))},
		{list(e(0, 3, "long text"), e(4, 2, "")), "long textd", list(e(0, 9, "abc"), e(10, 0, "ef"))},
		{list(e(1, 1, "abcdef"), e(3, 1, "abcdef")), "aabcdefcabcdefef", list(e(1, 6, "b"), e(8, 6, "d"))},
	} {
		wantText(t, s, c.l, c.want)
		wantBack(t, s, c.l, c.back)
	}
	wantText(t, "", nil, "")
	wantText(t, "", []api.Edit{}, "")
	wantText(t, "", list(e(0, 0, "x")), "x")
	wantText(t, "", list(e(0, 0, "")), "")
}

// TestAllAtOnce holds that no edit's place is counted in what another one put in.
func TestAllAtOnce(t *testing.T) {
	wantText(t, "ab", list(e(0, 1, "b"), e(2, 0, "a")), "bba")
	wantText(t, "a+a+a", list(e(0, 1, "a+a"), e(2, 1, ""), e(4, 1, "b")), "a+a++b")
}

func TestNotApplied(t *testing.T) {
	s := "abcdef"
	for _, l := range [][]api.Edit{
		list(e(0, 7, "")), list(e(7, 0, "x")), list(e(-1, 1, "x")), list(e(1, -1, "x")), list(e(6, 1, "x")),
		list(e(0, 1, ""), e(1, 1, "x")), list(e(2, 0, "x"), e(2, 0, "y")), list(e(3, 1, ""), e(0, 1, "")), list(e(0, 3, ""), e(2, 1, "")),
		list(e(0, 0, "x"), e(2, 1, "y"), e(4, 3, "z")),
	} {
		wantNot(t, s, l)
	}
	wantNot(t, "", list(e(0, 1, "")))
	wantNot(t, "", list(e(1, 0, "")))
	wantNot(t, "", list(e(0, 0, "x"), e(0, 0, "y")))
}

// TestBytesThatAreNoText cuts runes, and puts in halves of them: an edit knows bytes alone.
func TestBytesThatAreNoText(t *testing.T) {
	wantText(t, "é☃", list(e(1, 1, "\xff")), "\xc3\xff☃")
	wantText(t, "é☃", list(e(0, 1, ""), e(3, 1, "")), "\xa9\xe2\x83")
	wantText(t, "é☃", list(e(4, 0, "\x00")), "é\xe2\x98\x00\x83")
	wantText(t, "\xff\xfe\x00\x80", list(e(0, 1, "\xc0"), e(2, 1, "\xed\xa0\x80")), "\xc0\xfe\xed\xa0\x80\x80")
	wantText(t, "\r\n\x7f", list(e(1, 1, "")), "\r\x7f")
	for b := range 256 {
		s := string([]byte{byte(b)})
		wantText(t, "ab", list(e(1, 0, s)), "a"+s+"b")
		wantText(t, s+s+s, list(e(1, 1, "")), s+s)
		wantBack(t, s+s+s, list(e(1, 1, "")), list(e(1, 0, s)))
	}
}

// TestAllShortLists takes every list of up to two edits in a text of up to four bytes, a step beyond it too, and puts a third one behind two that may be (of four bytes that would be too many).
func TestAllShortLists(t *testing.T) {
	texts := []string{"", "XY"}
	for n := range 5 {
		s := "abcd"[:n]
		var ones []api.Edit
		for at := -1; at <= n+1; at++ {
			for length := -1; length <= n+1; length++ {
				for _, text := range texts {
					ones = append(ones, e(at, length, text))
				}
			}
		}
		same(t, s, nil)
		for _, a := range ones {
			same(t, s, list(a))
			for _, b := range ones {
				same(t, s, list(a, b))
				if n < 4 && slowMay(list(a, b), n) {
					for _, c := range ones {
						same(t, s, list(a, b, c))
					}
				}
			}
		}
	}
}

// strewn makes edits that may be, most times, in a text of n bytes.
func strewn(r *rand.Rand, n int) []api.Edit {
	var l []api.Edit
	at := r.Intn(4)
	for at <= n && r.Intn(20) > 0 {
		length := min(r.Intn(4), n-at+r.Intn(20)/19)
		l = append(l, e(at, length, bytes(r, r.Intn(5))))
		at += length + 1 + r.Intn(5)
		if r.Intn(60) == 0 {
			at--
		}
	}
	return l
}

func bytes(r *rand.Rand, n int) string {
	b := make([]byte, n)
	for i := range b {
		b[i] = byte(r.Intn(256))
	}
	return string(b)
}

func TestStrewnLists(t *testing.T) {
	r := rand.New(rand.NewSource(8))
	made, refused := 0, 0
	for range 3000 {
		s := bytes(r, r.Intn(120))
		l := strewn(r, len(s))
		if slowMay(l, len(s)) {
			made++
		} else {
			refused++
		}
		same(t, s, l)
	}
	if made < 500 || refused < 50 {
		t.Errorf("%d lists may be and %d may not: too few of one", made, refused)
	}
}

// TestLongText holds a text far beyond a file's: the calls know no limit.
func TestLongText(t *testing.T) {
	const n = 100_000
	s := strings.Repeat("ab", n)
	l := make([]api.Edit, n)
	for i := range l {
		l[i] = e(2*i, 1, "xyz")
	}
	wantMay(t, l, len(s), true)
	got, ok := edit.Apply(s, l)
	if got != strings.Repeat("xyzb", n) || !ok {
		t.Errorf("P8.1: Apply of %d edits is %s, %v", n, short(got), ok)
	}
	back := edit.Back(s, l)
	if len(back) != n || back[n-1] != e(4*n-4, 3, "a") {
		t.Errorf("P8.1: Back of %d edits has %d", n, len(back))
	}
	if again, ok := edit.Apply(got, back); again != s || !ok {
		t.Errorf("P8.1: Back of %d edits makes %s, %v", n, short(again), ok)
	}
	if !edit.Eq(l, slices.Clone(l)) || edit.Eq(l, l[1:]) {
		t.Errorf("P8.1: Eq of %d edits", n)
	}
}

func TestEq(t *testing.T) {
	wantEq(t, nil, nil, true)
	wantEq(t, nil, []api.Edit{}, true)
	wantEq(t, []api.Edit{}, []api.Edit{}, true)
	wantEq(t, nil, list(e(0, 0, "")), false)
	wantEq(t, []api.Edit{}, list(e(0, 0, "")), false)
	wantEq(t, list(e(0, 0, "")), list(e(0, 0, "")), true)
	wantEq(t, list(e(0, 0, "")), list(e(0, 0, ""), e(0, 0, "")), false)

	l := list(e(1, 2, "x"), e(4, 0, "é"), e(7, 1, "\xff"))
	wantEq(t, l, l, true)
	wantEq(t, l, list(e(1, 2, "x"), e(4, 0, "é"), e(7, 1, "\xff")), true)
	for n := range l {
		wantEq(t, l, l[:n], false)
		wantEq(t, l, l[n+1:], false)
	}
	wantEq(t, l, list(l[1], l[0], l[2]), false)
	wantEq(t, l, list(l[2], l[1], l[0]), false)
}

// TestEqOfOneField changes one field alone of each edit, the first and the last too.
func TestEqOfOneField(t *testing.T) {
	l := list(e(1, 2, "x"), e(4, 0, "xy"), e(7, 1, ""), e(-3, -3, "\xff"))
	for i, x := range l {
		for _, other := range []api.Edit{
			e(x.At+1, x.Len, x.Text), e(-x.At, x.Len, x.Text), e(x.At+1<<32, x.Len, x.Text), e(math.MaxInt, x.Len, x.Text),
			e(x.At, x.Len+1, x.Text), e(x.At, x.Len-1, x.Text), e(x.At, x.Len+1<<32, x.Text), e(x.At, math.MinInt, x.Text),
			e(x.At, x.Len, x.Text+"x"), e(x.At, x.Len, "y"), e(x.At, x.Len, "X"), e(x.At, x.Len, x.Text+"\x00"), e(x.At, x.Len, "\xfe"),
		} {
			changed := slices.Clone(l)
			changed[i] = other
			wantEq(t, l, changed, false)
			wantEq(t, l[i:i+1], changed[i:i+1], false)
			wantEq(t, l[:i], changed[:i], true)
			wantEq(t, l[i+1:], changed[i+1:], true)
		}
	}
}

// TestEqAsksNotWhetherTheyMayBe holds lists that no text takes.
func TestEqAsksNotWhetherTheyMayBe(t *testing.T) {
	for _, n := range far() {
		wantEq(t, list(e(n, n, ""), e(n, n, "")), list(e(n, n, ""), e(n, n, "")), true)
		wantEq(t, list(e(n, n, ""), e(n, n, "")), list(e(n, n, ""), e(n, 0, "")), false)
	}
}

// roomy answers l with spare room that is filled.
func roomy(l []api.Edit) []api.Edit {
	room := slices.Clone(l)
	for range 5 {
		room = append(room, e(-9, -9, "spare"))
	}
	return room[:len(l)]
}

// TestListsStay hands lists in with spare room, and looks at both afterwards.
func TestListsStay(t *testing.T) {
	s := "abcdef"
	for _, l := range [][]api.Edit{
		nil,
		list(e(0, 0, "x")),
		list(e(0, 1, "XX"), e(2, 2, ""), e(5, 0, "-")),
		list(e(3, 1, "x"), e(0, 1, "y")),
		list(e(0, 9, "x")),
	} {
		given, other := roomy(l), roomy(l)
		edit.May(given, len(s))
		edit.Apply(s, given)
		edit.Back(s, given)
		edit.Eq(given, other)
		want := roomy(l)
		for _, got := range [][]api.Edit{given, other} {
			if !slices.Equal(got[:cap(got)][:len(l)+5], want[:cap(want)][:len(l)+5]) {
				t.Errorf("P0.3: the list %v was changed: %v", l, got[:len(l)+5])
			}
		}
	}
}

// TestAnswersAreNew writes over what was answered and what was handed in, spare room too.
func TestAnswersAreNew(t *testing.T) {
	s := "abcdef"
	for _, l := range [][]api.Edit{
		nil,
		list(e(0, 0, "x")),
		list(e(0, 1, "XX"), e(2, 2, ""), e(5, 0, "-")),
		list(e(1, 2, "bc")),
	} {
		want := slowBack(s, l)
		given := roomy(l)
		first, second := edit.Back(s, given), edit.Back(s, given)
		overwrite(first)
		if !slices.Equal(second, want) {
			t.Errorf("P0.3: what Back(%q, %v) answered was changed through another answer", s, l)
		}
		if !slices.Equal(given, l) {
			t.Errorf("P0.3: the list %v was changed through an answer", l)
		}
		wantBack(t, s, given, want)
		overwrite(given)
		if !slices.Equal(second, want) {
			t.Errorf("P0.3: what Back(%q, %v) answered was changed through its argument", s, l)
		}
		same(t, s, l)
	}
}

func overwrite(l []api.Edit) {
	l = l[:cap(l)]
	for i := range l {
		l[i] = e(-5, -5, "over")
	}
}

func TestSameAnswerAgain(t *testing.T) {
	s, l := "abcdef", list(e(0, 1, "XX"), e(2, 2, ""), e(5, 0, "-"))
	for _, other := range [][]api.Edit{nil, list(e(0, 6, "")), list(e(9, 9, "")), list(e(1, 1, "long text"))} {
		edit.May(other, 6)
		edit.Apply("uvwxyz", other)
		edit.Back("uvwxyz", other)
		edit.Eq(other, l)
		wantText(t, s, l, "XXbe-f")
		wantBack(t, s, l, list(e(0, 2, "a"), e(3, 0, "cd"), e(4, 1, "")))
	}
}

// Any bytes and numbers at all may come in; run with -fuzz to look further.
func FuzzAll(f *testing.F) {
	f.Add("abcdef", 0, 1, "XX", 2, 2, "", 6)
	f.Add("", math.MaxInt, math.MaxInt, "\xff", math.MinInt, -1, "x", math.MaxInt)
	f.Fuzz(func(t *testing.T, s string, at1, len1 int, text1 string, at2, len2 int, text2 string, n int) {
		l := list(e(at1, len1, text1), e(at2, len2, text2))
		for _, part := range [][]api.Edit{l, l[:1], l[1:], l[:0]} {
			same(t, s, part)
			wantMay(t, part, n, slowMay(part, n))
			wantEq(t, part, slices.Clone(part), true)
		}
	})
}
