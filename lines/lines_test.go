package lines_test

import (
	"fmt"
	"math"
	"math/rand"
	"slices"
	"strings"
	"testing"

	"recension/lines"
)

// place is a byte's line and column.
type place struct{ line, col int }

// places goes over s byte by byte, and answers the place of each one and of the end.
func places(s string) []place {
	p := place{1, 1}
	list := []place{p}
	for i := range len(s) {
		p.col++
		if s[i] == 10 {
			p = place{p.line + 1, 1}
		}
		list = append(list, p)
	}
	return list
}

// wrong are numbers that are no line, column or byte of any text.
func wrong() []int {
	return []int{0, -1, -2, math.MinInt32, math.MinInt + 1, math.MinInt}
}

// great are numbers that are beyond all texts, some of which wrap if one is added.
func great() []int {
	return []int{1 << 31, 1<<32 + 1, 1 << 62, math.MaxInt - 1, math.MaxInt}
}

// texts are the ones that the calls are held against in many places.
func texts() []string {
	return []string{
		"", "a", "abc", "\n", "\n\n", "\n\n\n\n", "a\n", "a\nb", "\na", "\n\nx", "a\n\nb\n", "ab\n\ncde",
		"package p\n\nvar a = 1 // é\n",
		"a\r\nb\r\n", "\r", "a\rb", "\v\f\x00\x7f\n\t \n",
		"é\né", "☃\n☃☃", "\U0001f600\n\U0001f600", "é☃\U0001f600\n\U0001f600☃é\n",
		"\u0085a\u2028b\u2029c", "\u010a\u0a0a\ufffd\n\ufeff",
		"\xff\n\xfe", "\xc3\n\xa9", "\xe2\x98\n\x83", "\xf0\x9f\x98", "\x80\n\xed\xa0\x80\n\xc0\x8a", "\x8a\n\n\x8a",
		strings.Repeat("x", 2001), strings.Repeat("\n", 2001), strings.Repeat("ab\n", 700) + "c",
	}
}

// short keeps what a fault tells readable.
func short(s string) string {
	if len(s) > 60 {
		return fmt.Sprintf("%q.. (%d bytes)", s[:60], len(s))
	}
	return fmt.Sprintf("%q", s)
}

func wantStarts(t *testing.T, s string, want ...int) {
	t.Helper()
	if got := lines.Starts(s); !slices.Equal(got, want) {
		t.Errorf("P7.1: Starts of %s is %v, not %v", short(s), got, want)
	}
}

func wantOf(t *testing.T, s string, at int, want place) {
	t.Helper()
	if line, col := lines.Of(s, at); line != want.line || col != want.col {
		t.Errorf("P7.1: Of %s at %d is %d, %d, not %v", short(s), at, line, col, want)
	}
}

func wantAt(t *testing.T, s string, p place, want int) {
	t.Helper()
	if got := lines.At(s, p.line, p.col); got != want {
		t.Errorf("P7.1: At of %s, %v is %d, not %d", short(s), p, got, want)
	}
}

func wantLine(t *testing.T, s string, n int, want string) {
	t.Helper()
	if got, ok := lines.Line(s, n); got != want || !ok {
		t.Errorf("P7.1: Line %d of %s is %s, %v, not %s", n, short(s), short(got), ok, short(want))
	}
}

func wantNoLine(t *testing.T, s string, n int) {
	t.Helper()
	got, ok := lines.Line(s, n)
	if ok {
		t.Errorf("P7.1: Line %d of %s is there", n, short(s))
	}
	if got != "" {
		t.Errorf("P0.2: Line %d of %s is not there, and is %s", n, short(s), short(got))
	}
}

// same holds all four calls against the way byte by byte.
func same(t *testing.T, s string) {
	t.Helper()
	var starts []int
	for at, p := range places(s) {
		if p.col == 1 {
			starts = append(starts, at)
		}
		wantOf(t, s, at, p)
		wantAt(t, s, p, at)
	}
	wantStarts(t, s, starts...)
	all := strings.Split(s, "\n")
	for i, line := range all {
		wantLine(t, s, i+1, line)
		wantAt(t, s, place{i + 1, 0}, -1)
		wantAt(t, s, place{i + 1, len(line) + 1}, starts[i]+len(line))
		wantAt(t, s, place{i + 1, len(line) + 2}, -1)
	}
	wantNoLine(t, s, 0)
	wantNoLine(t, s, len(all)+1)
	wantAt(t, s, place{0, 1}, -1)
	wantAt(t, s, place{len(all) + 1, 1}, -1)
	wantOf(t, s, -1, place{})
	wantOf(t, s, len(s)+1, place{})
}

func TestStarts(t *testing.T) {
	wantStarts(t, "", 0)
	wantStarts(t, "a", 0)
	wantStarts(t, "no newline", 0)
	wantStarts(t, strings.Repeat("x", 5000), 0)
	wantStarts(t, "\n", 0, 1)
	wantStarts(t, "\n\n", 0, 1, 2)
	wantStarts(t, "\n\n\n\n", 0, 1, 2, 3, 4)
	wantStarts(t, "a\n", 0, 2)
	wantStarts(t, "ab\ncd\n", 0, 3, 6)
	wantStarts(t, "ab\ncd", 0, 3)
	wantStarts(t, "\nab", 0, 1)
	wantStarts(t, "ab\n\ncde", 0, 3, 4)
	wantStarts(t, "é\n☃\n\U0001f600\n", 0, 3, 7, 12)
	wantStarts(t, "\xff\n\xc3\n", 0, 2, 4)
}

// TestOnlyANewlineEndsALine takes all bytes, and runes that others hold for ends of lines.
func TestOnlyANewlineEndsALine(t *testing.T) {
	for b := range 256 {
		s := "a" + string([]byte{byte(b)}) + "b"
		if b == 10 {
			wantStarts(t, s, 0, 2)
			continue
		}
		wantStarts(t, s, 0)
		wantOf(t, s, 2, place{1, 3})
		wantAt(t, s, place{2, 1}, -1)
		wantLine(t, s, 1, s)
		wantNoLine(t, s, 2)
	}
	for _, s := range []string{"a\u0085b", "a\u2028b", "a\u2029b", "a\u010ab", "a\u0a0ab", "a\\nb"} {
		wantStarts(t, s, 0)
		wantLine(t, s, 1, s)
	}
	wantStarts(t, "a\r\nb\n\rc", 0, 3, 5)
	wantLine(t, "a\r\nb\n\rc", 1, "a\r")
	wantLine(t, "a\r\nb\n\rc", 3, "\rc")
}

func TestOfEachByte(t *testing.T) {
	for s, want := range map[string][]place{
		"":            {{1, 1}},
		"a":           {{1, 1}, {1, 2}},
		"\n":          {{1, 1}, {2, 1}},
		"\n\n":        {{1, 1}, {2, 1}, {3, 1}},
		"a\n":         {{1, 1}, {1, 2}, {2, 1}},
		"ab\n\ncde":   {{1, 1}, {1, 2}, {1, 3}, {2, 1}, {3, 1}, {3, 2}, {3, 3}, {3, 4}},
		"é\n":         {{1, 1}, {1, 2}, {1, 3}, {2, 1}},
		"a☃\nb":       {{1, 1}, {1, 2}, {1, 3}, {1, 4}, {1, 5}, {2, 1}, {2, 2}},
		"\U0001f600a": {{1, 1}, {1, 2}, {1, 3}, {1, 4}, {1, 5}, {1, 6}},
		"\n☃é":        {{1, 1}, {2, 1}, {2, 2}, {2, 3}, {2, 4}, {2, 5}, {2, 6}},
		"\xff\n\xc3":  {{1, 1}, {1, 2}, {2, 1}, {2, 2}},
		"\t\x00\n\r":  {{1, 1}, {1, 2}, {1, 3}, {2, 1}, {2, 2}},
	} {
		if len(want) != len(s)+1 {
			t.Fatalf("%q has %d places", s, len(want))
		}
		for at, p := range want {
			wantOf(t, s, at, p)
			wantAt(t, s, p, at)
		}
	}
}

func TestOfNoByte(t *testing.T) {
	for _, s := range texts() {
		for _, at := range slices.Concat(wrong()[1:], great(), []int{len(s) + 1, len(s) + 2}) {
			wantOf(t, s, at, place{})
		}
	}
}

func TestAtNoPlace(t *testing.T) {
	s := "ab\n\ncde\n"
	for _, p := range []place{
		{1, 0}, {1, 4}, {1, 5}, {1, 8},
		{2, 0}, {2, 2}, {2, 3},
		{3, 0}, {3, 5}, {3, 6},
		{4, 0}, {4, 2}, {4, -7},
		{5, 0}, {5, 1}, {6, 1}, {8, 1},
		{0, 0}, {0, 1}, {0, 3}, {0, 9}, {-1, 1}, {-1, -1}, {-4, 4}, {1, -1}, {2, -2}, {3, -3},
	} {
		wantAt(t, s, p, -1)
	}
	for p, want := range map[place]int{{1, 3}: 2, {2, 1}: 3, {3, 4}: 7, {4, 1}: 8} {
		wantAt(t, s, p, want)
	}
	wantAt(t, "", place{1, 1}, 0)
	wantAt(t, "", place{1, 2}, -1)
	wantAt(t, "", place{2, 1}, -1)
	wantAt(t, "abc", place{1, 4}, 3)
	wantAt(t, "abc", place{1, 5}, -1)
}

func TestAtNumbersThatNoTextHas(t *testing.T) {
	far := slices.Concat(wrong(), great())
	for _, s := range texts() {
		last := len(strings.Split(s, "\n"))
		for _, n := range far {
			for _, line := range []int{1, 2, last, last + 1} {
				wantAt(t, s, place{line, n}, -1)
			}
			for _, col := range append([]int{1, 2, len(s) + 1}, far...) {
				wantAt(t, s, place{n, col}, -1)
			}
		}
	}
}

func TestLine(t *testing.T) {
	for s, want := range map[string][]string{
		"":               {""},
		"a":              {"a"},
		"ab c":           {"ab c"},
		"\n":             {"", ""},
		"\n\n":           {"", "", ""},
		"a\n":            {"a", ""},
		"a\nb":           {"a", "b"},
		"ab\n\ncde":      {"ab", "", "cde"},
		"ab\n\ncde\n":    {"ab", "", "cde", ""},
		"ab\n\ncde\n\n":  {"ab", "", "cde", "", ""},
		" \n\t\n":        {" ", "\t", ""},
		"é☃\n\U0001f600": {"é☃", "\U0001f600"},
		"\xff\n\xc3\xa9": {"\xff", "\xc3\xa9"},
		"\xc3\n\xa9":     {"\xc3", "\xa9"},
		"a\r\nb\r\n":     {"a\r", "b\r", ""},
	} {
		for i, line := range want {
			wantLine(t, s, i+1, line)
		}
		wantNoLine(t, s, len(want)+1)
		wantNoLine(t, s, len(want)+2)
	}
}

func TestNoLine(t *testing.T) {
	for _, s := range texts() {
		for _, n := range slices.Concat(wrong(), great(), []int{strings.Count(s, "\n") + 2}) {
			wantNoLine(t, s, n)
		}
	}
}

func TestTexts(t *testing.T) {
	for _, s := range texts() {
		same(t, s)
	}
}

// TestAllShortTexts takes each text of up to six pieces, so that newlines stand in every place.
func TestAllShortTexts(t *testing.T) {
	pieces := []string{"\n", "a", "é", "\xff", "\r"}
	list := []string{""}
	for range 6 {
		var longer []string
		for _, s := range list {
			same(t, s)
			for _, p := range pieces {
				longer = append(longer, s+p)
			}
		}
		list = longer
	}
	for _, s := range list {
		same(t, s)
	}
}

func TestStrewnTexts(t *testing.T) {
	r := rand.New(rand.NewSource(7))
	for range 300 {
		b := make([]byte, r.Intn(200))
		for i := range b {
			b[i] = byte(r.Intn(256))
			if r.Intn(8) == 0 {
				b[i] = '\n'
			}
		}
		same(t, string(b))
	}
}

// TestLongText holds a text far beyond a file's: the calls know no limit.
func TestLongText(t *testing.T) {
	const n = 200_000
	s := strings.Repeat("ab\n", n)
	starts := lines.Starts(s)
	if len(starts) != n+1 || starts[n] != 3*n || starts[n-1] != 3*n-3 {
		t.Errorf("P7.1: Starts of %s has %d lines", short(s), len(starts))
	}
	wantOf(t, s, 3*n, place{n + 1, 1})
	wantOf(t, s, 3*n-1, place{n, 3})
	wantAt(t, s, place{n, 3}, 3*n-1)
	wantAt(t, s, place{n + 1, 1}, 3*n)
	wantLine(t, s, n, "ab")
	wantLine(t, s, n+1, "")
	wantNoLine(t, s, n+2)
}

// TestAnswersAreNew writes over what was answered, its spare room too.
func TestAnswersAreNew(t *testing.T) {
	for _, s := range texts() {
		want := slices.Clone(lines.Starts(s))
		first, second := lines.Starts(s), lines.Starts(s)
		first = first[:cap(first)]
		for i := range first {
			first[i] = -5
		}
		if !slices.Equal(second, want) {
			t.Errorf("P0.3: what Starts of %s answered was changed through another answer", short(s))
		}
		if got := lines.Starts(s); !slices.Equal(got, want) {
			t.Errorf("P0.3: Starts of %s is %v behind a change of its answer, not %v", short(s), got, want)
		}
		same(t, s)
	}
}

func TestSameAnswerAgain(t *testing.T) {
	s := "ab\n\ncde"
	for _, other := range texts() {
		lines.Starts(other)
		lines.Of(other, len(other))
		lines.At(other, 1, 1)
		lines.Line(other, 1)
		same(t, s)
	}
}

// Any bytes and numbers at all may come in; run with -fuzz to look further.
func FuzzAll(f *testing.F) {
	f.Add("a\n\xe2\x98\nb", 2, 1)
	f.Add("", 0, math.MaxInt)
	f.Fuzz(func(t *testing.T, s string, line, col int) {
		same(t, s)
		wantAt(t, s, place{line, col}, slices.Index(places(s), place{line, col}))
	})
}
