package utf_test

import (
	"strings"
	"testing"
	"unicode/utf8"

	"recension/api"
	"recension/utf"
)

// fault is the place by the table of well-formed bytes, with no decoder of the library.
func fault(b []byte) int {
	for i := 0; i < len(b); {
		w := width(b[i:])
		if w == 0 || w == 1 && (b[i] < 32 && b[i] != 9 && b[i] != 10 || b[i] == 127) {
			return i
		}
		i += w
	}
	return -1
}

// count is the number of runes by the same table: a wrong byte is one.
func count(b []byte) int {
	n := 0
	for i := 0; i < len(b); n++ {
		i += max(width(b[i:]), 1)
	}
	return n
}

// width is how many bytes the first rune of b takes; 0: b begins with none.
func width(b []byte) int {
	low, high, w := byte(0x80), byte(0xbf), 0
	switch c := b[0]; {
	case c < 0x80:
		return 1
	case c >= 0xc2 && c <= 0xdf:
		w = 2
	case c >= 0xe0 && c <= 0xef:
		w = 3
	case c >= 0xf0 && c <= 0xf4:
		w = 4
	}
	switch b[0] {
	case 0xe0:
		low = 0xa0
	case 0xed:
		high = 0x9f
	case 0xf0:
		low = 0x90
	case 0xf4:
		high = 0x8f
	}
	if len(b) < w || w == 0 || b[1] < low || b[1] > high {
		return 0
	}
	for _, c := range b[2:w] {
		if c < 0x80 || c > 0xbf {
			return 0
		}
	}
	return w
}

// same holds all three calls against the table.
func same(t *testing.T, s string) {
	t.Helper()
	want := fault([]byte(s))
	if got := utf.Fault(s); got != want {
		t.Errorf("P3.1: Fault of %.40q (%d bytes) is %d, not %d", s, len(s), got, want)
	}
	if got := utf.Text(s); got != (want < 0 && len(s) <= 2000) {
		t.Errorf("P3.1: Text of %.40q (%d bytes) is %v", s, len(s), got)
	}
	if got, n := utf.Count(s), count([]byte(s)); got != n {
		t.Errorf("P3.1: Count of %.40q (%d bytes) is %d, not %d", s, len(s), got, n)
	}
}

func TestFaultOfKnownTexts(t *testing.T) {
	for _, c := range []struct {
		s    string
		want int
	}{
		{"", -1},
		{"package p\n\nvar a = 1 // é\n", -1},
		{"\t\n", -1},
		{" ~", -1},
		{"\u0080\u0085\u009f\u00a0\u00ad", -1}, // controls of two bytes are no bytes below 32
		{"\u2028\ufeff\ufffe\uffff", -1},
		{"\U0001f600\U0010ffff", -1},
		{"\xef\xbf\xbd", -1},
		{"a\xef\xbf\xbdb\xef\xbf\xbd", -1},
		{"\xef\xbf\xbd\x80", 3},
		{"\xef\xbf\xbd\xef\xbf", 3},
		{"\xef\xbf", 0},
		{"\xef\xbf\x7f", 0},
		{"\xef\x00\xbd", 0},
		{"\xef\xbf\xbe\xff\xef\xbf\xbd", 3},
		{"a\xffb\xef\xbf\xbd", 1},
		{"\x80", 0},
		{"a\xbf", 1},
		{"é\x80", 2},
		{"\xc0\x80", 0},
		{"\xc1\xbf", 0},
		{"a\xe0\x80\x80", 1},
		{"a\xe0\x9f\xbf", 1},
		{"a\xe0\xa0\x80", -1},
		{"a\xf0\x80\x80\x80", 1},
		{"a\xf0\x8f\xbf\xbf", 1},
		{"a\xf0\x90\x80\x80", -1},
		{"a\xed\x9f\xbf", -1},
		{"a\xed\xa0\x80", 1},
		{"a\xed\xbf\xbf", 1},
		{"a\xed\xa0\xbd\xed\xb8\x80", 1}, // a pair of halves
		{"a\xee\x80\x80", -1},
		{"ab\xf4\x8f\xbf\xbf", -1},
		{"ab\xf4\x90\x80\x80", 2},
		{"ab\xf5\x80\x80\x80", 2},
		{"ab\xf8\x88\x80\x80\x80", 2},
		{"\xfe", 0},
		{"\xff", 0},
		{"a\r\n", 1},
		{"a\x7f", 1},
		{"☃\x00", 3},
		{"\U0001f600\x1f", 4},
		{"a\x00\xff", 1},
		{"a\xff\x00", 1},
		{"\x7f\x00\xff", 0},
		{"ok\n\x0b\x0c\xff\x7f", 3},
	} {
		if got := utf.Fault(c.s); got != c.want {
			t.Errorf("P3.1: Fault of %q is %d, not %d", c.s, got, c.want)
		}
		if got := utf.Text(c.s); got != (c.want < 0) {
			t.Errorf("P3.1: Text of %q is %v", c.s, got)
		}
		same(t, c.s)
	}
}

func TestFaultAtEachByte(t *testing.T) {
	for c := range 256 {
		wrong := c < 32 && c != 9 && c != 10 || c >= 127
		for _, ahead := range []string{"", "a", "é\n", "☃\t", "\U0001f600", "\ufffd", strings.Repeat("x", 70)} {
			for _, behind := range []string{"", "z", "\x00", "\xff", "\ufffd"} {
				s := ahead + string([]byte{byte(c)}) + behind
				want := -1
				if wrong {
					want = len(ahead)
				} else if behind == "\x00" || behind == "\xff" {
					want = len(ahead) + 1
				}
				if got := utf.Fault(s); got != want {
					t.Errorf("P3.1: Fault of %q is %d, not %d", s, got, want)
				}
				same(t, s)
			}
		}
	}
}

func TestFaultAtEachRune(t *testing.T) {
	for r := rune(0); r <= utf8.MaxRune; r++ {
		if r >= 0xd800 && r <= 0xdfff {
			continue
		}
		s, want := string(r), -1
		if r < 32 && r != 9 && r != 10 || r == 127 {
			want = 0
		}
		if utf.Fault(s) != want || utf.Text(s) != (want < 0) || utf.Count(s) != 1 {
			t.Fatalf("P3.1: %q: %d, %v, %d", s, utf.Fault(s), utf.Text(s), utf.Count(s))
		}
	}
}

func TestFaultWhereARuneIsCutOff(t *testing.T) {
	for _, r := range []string{"é", "\u07ff", "\u0800", "☃", "\ufffd", "\uffff", "\U00010000", "\U0001f600", "\U0010ffff"} {
		for n := 1; n < len(r); n++ {
			for _, behind := range []string{"", "b", "é", r, "\ufffd"} {
				s := "ab" + r + r[:n] + behind
				if got := utf.Fault(s); got != 2+len(r) {
					t.Errorf("P3.1: Fault of %q is %d", s, got)
				}
				if got, want := utf.Count(s), 3+n+utf8.RuneCountInString(behind); got != want {
					t.Errorf("P3.1: Count of %q is %d, not %d", s, got, want)
				}
				if utf.Text(s) {
					t.Errorf("P3.1: %q is a text", s)
				}
			}
			s := "ab" + r[n:]
			if got := utf.Fault(s); got != 2 {
				t.Errorf("P3.1: Fault of %q is %d", s, got)
			}
		}
	}
}

// Each byte stands here ahead of bytes of every class, so that every way of being wrong comes.
func TestAllShortTexts(t *testing.T) {
	next := []byte{0, 9, 10, 31, ' ', 'a', 127, 0x80, 0x8f, 0x90, 0x9f, 0xa0, 0xbd, 0xbf, 0xc0, 0xc2, 0xe0, 0xed, 0xef, 0xf0, 0xf4, 0xff}
	for a := range 256 {
		for _, b := range next {
			same(t, string([]byte{byte(a), b}))
			for _, c := range next {
				same(t, string([]byte{byte(a), b, c}))
				for _, d := range next {
					same(t, string([]byte{byte(a), b, c, d}))
				}
			}
		}
	}
}

func TestTextByItsLength(t *testing.T) {
	if api.MaxText != 2000 {
		t.Fatal("P3.1: MaxText")
	}
	for _, n := range []int{0, 1, 1998, 1999, 2000, 2001, 2002, 5000, 1 << 20} {
		s := strings.Repeat("x", n)
		if got := utf.Text(s); got != (n <= 2000) {
			t.Errorf("P3.1: Text of %d bytes is %v", n, got)
		}
		if got := utf.Fault(s); got != -1 {
			t.Errorf("P3.1: Fault of %d bytes is %d", n, got)
		}
		if got := utf.Count(s); got != n {
			t.Errorf("P3.1: Count of %d bytes is %d", n, got)
		}
	}
}

func TestTextOfAllowedLengthWithAFault(t *testing.T) {
	for _, n := range []int{1999, 2000, 2001} {
		for _, wrong := range []string{"\x00", "\r", "\x7f", "\xff", "\xc3"} {
			for _, at := range []int{0, 1, n / 2, n - 1} {
				s := strings.Repeat("x", at) + wrong + strings.Repeat("x", n-at-1)
				if got := utf.Fault(s); got != at {
					t.Errorf("P3.1: Fault of %d bytes with %q at %d is %d", n, wrong, at, got)
				}
				if utf.Text(s) {
					t.Errorf("P3.1: %d bytes with %q at %d are a text", n, wrong, at)
				}
				if got := utf.Count(s); got != n {
					t.Errorf("P3.1: Count of %d bytes with %q at %d is %d", n, wrong, at, got)
				}
			}
		}
	}
}

func TestTextIsMeasuredInBytes(t *testing.T) {
	for _, c := range []struct {
		s    string
		want bool
	}{
		{strings.Repeat("é", 1000), true},
		{strings.Repeat("é", 1000) + "a", false},
		{strings.Repeat("é", 1001), false},
		{strings.Repeat("☃", 666) + "ab", true},
		{strings.Repeat("☃", 667), false},
		{strings.Repeat("\U0001f600", 500), true},
		{strings.Repeat("\U0001f600", 500) + "a", false},
		{strings.Repeat("\ufffd", 666), true},
		{strings.Repeat("é", 999) + "a" + "\xc3", false},
	} {
		if got := utf.Text(c.s); got != c.want {
			t.Errorf("P3.1: Text of %d bytes %.10q is %v", len(c.s), c.s, got)
		}
		same(t, c.s)
	}
}

func TestCountOfKnownTexts(t *testing.T) {
	for _, c := range []struct {
		s    string
		want int
	}{
		{"", 0},
		{"abc", 3},
		{"a\x00\r\n\x7f", 5},
		{"é☃\U0001f600\ufffd", 4},
		{"e\u0301", 2}, // an accent of its own is a rune
		{"\xff\xfe", 2},
		{"a\xe2\x98b", 4},
		{"\xe2\x98\x83", 1},
		{"\xed\xa0\x80", 3},
		{"\xf4\x90\x80\x80", 4},
		{"\xf8\x88\x80\x80\x80", 5},
		{"\xc0\x80", 2},
		{"\xf0\x9f\x98é", 4},
	} {
		if got := utf.Count(c.s); got != c.want {
			t.Errorf("P3.1: Count of %q is %d, not %d", c.s, got, c.want)
		}
	}
}

func TestSameAnswerAgain(t *testing.T) {
	for _, s := range []string{"", "a\xff", "a\x00", "é", strings.Repeat("é", 1000)} {
		f, x, n := utf.Fault(s), utf.Text(s), utf.Count(s)
		utf.Fault("\xff")
		utf.Text("\x00")
		utf.Count("\ufffd")
		if utf.Fault(s) != f || utf.Text(s) != x || utf.Count(s) != n {
			t.Errorf("P0.5: %.10q is told in another way the second time", s)
		}
	}
}

// Any bytes at all may come in; run with -fuzz to look further.
func FuzzAll(f *testing.F) {
	f.Add("a\xe2\x98b\x00")
	f.Add("\xef\xbf\xbd\xef\xbf")
	f.Fuzz(func(t *testing.T, s string) { same(t, s) })
}
