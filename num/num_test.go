package num_test

import (
	"bytes"
	"encoding/binary"
	"math"
	"slices"
	"strings"
	"testing"

	"recension/api"
	"recension/num"
)

// numbers are those around each power of two, where the bytes become more, and both ends.
func numbers() []int64 {
	l := []int64{0, 1, -1, 2, -2, 300, -300, 123456789, -123456789, math.MaxInt64, math.MinInt64}
	for k := range 63 {
		p := int64(1) << k
		l = append(l, p-1, p, p+1, -p-1, -p, -p+1)
	}
	return append(l, math.MaxInt64-1, math.MinInt64+1)
}

// nines answers nine bytes that each say that more come, and the bytes of end.
func nines(c byte, end ...byte) []byte {
	return append(bytes.Repeat([]byte{c}, 9), end...)
}

func refused(t *testing.T, b []byte, want api.Errno) {
	t.Helper()
	if n, k, err := num.Get(b); n != 0 || k != 0 || err != want {
		t.Errorf("P1.1: Get(%x) = %d, %d, %d, want the error %d alone", b, n, k, err, want)
	}
}

func textRefused(t *testing.T, b []byte, want api.Errno) {
	t.Helper()
	if s, k, err := num.GetText(b); s != "" || k != 0 || err != want {
		t.Errorf("P1.1: GetText(%.20x) = %.20q, %d, %d, want the error %d alone", b, s, k, err, want)
	}
}

func TestPutWritesTheDocumentsBytes(t *testing.T) {
	for _, c := range []struct {
		n    int64
		want string
	}{
		{0, "\x00"}, {-1, "\x01"}, {1, "\x02"}, {-2, "\x03"},
		{63, "\x7e"}, {-64, "\x7f"}, {64, "\x80\x01"}, {-65, "\x81\x01"},
		{150, "\xac\x02"}, {8191, "\xfe\x7f"}, {-8192, "\xff\x7f"}, {8192, "\x80\x80\x01"},
		{math.MaxInt64, "\xfe\xff\xff\xff\xff\xff\xff\xff\xff\x01"},
		{math.MinInt64, "\xff\xff\xff\xff\xff\xff\xff\xff\xff\x01"},
	} {
		if b := num.Put(nil, c.n); string(b) != c.want {
			t.Errorf("P1.1: Put(nil, %d) = %x, want %x", c.n, b, c.want)
		}
	}
}

// The library's signed varints are the same bytes, made by other hands.
func TestPutAndGetAgreeAtAllNumbers(t *testing.T) {
	for _, n := range numbers() {
		want := binary.AppendVarint([]byte("ab"), n)
		b := num.Put([]byte("ab"), n)
		if !bytes.Equal(b, want) {
			t.Errorf("P1.1: Put(ab, %d) = %x, want %x", n, b, want)
			continue
		}
		alone := b[2:]
		for _, tail := range []string{"", "\x00", "\xff\xff"} {
			long := slices.Concat(alone, []byte(tail))
			if x, k, err := num.Get(long); x != n || k != len(alone) || err != api.OK {
				t.Errorf("P1.1: Get(%x) = %d, %d, %d, want %d", long, x, k, err, n)
			}
		}
		for k := range alone {
			refused(t, alone[:k], api.ErrMore)
		}
	}
}

func TestGetOfTooLittle(t *testing.T) {
	refused(t, nil, api.ErrMore)
	refused(t, []byte{}, api.ErrMore)
	for k := 1; k <= 9; k++ {
		refused(t, bytes.Repeat([]byte{0x80}, k), api.ErrMore)
		refused(t, bytes.Repeat([]byte{0xff}, k), api.ErrMore)
	}
}

func TestGetOfMoreBytesThanNeeded(t *testing.T) {
	for _, n := range numbers() {
		b := num.Put(nil, n)
		b[len(b)-1] |= 0x80
		if len(b) < 10 {
			refused(t, append(b, 0), api.ErrForm)
			refused(t, append(b, 0, 7), api.ErrForm)
		}
	}
	for k := 1; k <= 9; k++ {
		refused(t, append(bytes.Repeat([]byte{0x80}, k), 0), api.ErrForm)
	}
	refused(t, []byte{0x80, 0x80, 0}, api.ErrForm)
	refused(t, []byte{0xff, 0}, api.ErrForm)
}

func TestGetOfATenthByte(t *testing.T) {
	for c := 2; c <= 255; c++ {
		refused(t, nines(0x80, byte(c)), api.ErrForm)
		refused(t, nines(0xff, byte(c)), api.ErrForm)
		refused(t, nines(0xff, byte(c), 1), api.ErrForm)
	}
	refused(t, nines(0x80, 0), api.ErrForm)
	for _, c := range []struct {
		b    []byte
		want int64
	}{{nines(0x80, 1), 1 << 62}, {nines(0xff, 1), math.MinInt64}, {nines(0xff, 1, 0xff), math.MinInt64}} {
		if n, k, err := num.Get(c.b); n != c.want || k != 10 || err != api.OK {
			t.Errorf("P1.1: Get(%x) = %d, %d, %d, want %d", c.b, n, k, err, c.want)
		}
	}
}

// judged is the promise said slowly: where the number ends, whether it may, and what the library reads there.
func judged(b []byte) (int64, int, api.Errno) {
	if len(b) >= 10 && b[9] > 1 && !slices.ContainsFunc(b[:9], func(c byte) bool { return c < 128 }) {
		return 0, 0, api.ErrForm
	}
	end := slices.IndexFunc(b, func(c byte) bool { return c < 128 })
	if end < 0 {
		return 0, 0, api.ErrMore
	}
	n, _ := binary.Varint(b)
	if !bytes.Equal(binary.AppendVarint(nil, n), b[:end+1]) {
		return 0, 0, api.ErrForm
	}
	return n, end + 1, api.OK
}

func TestGetOfAnyBytes(t *testing.T) {
	kinds := []byte{0, 1, 2, 0x7f, 0x80, 0x81, 0x82, 0xff}
	ends := [][]byte{{}}
	for from := 0; len(ends) < 4000; {
		to := len(ends)
		for _, e := range ends[from:to] {
			for _, c := range kinds {
				ends = append(ends, append(slices.Clone(e), c))
			}
		}
		from = to
	}
	for long := range 12 {
		for _, c := range []byte{0x80, 0xff} {
			for _, e := range ends {
				b := slices.Concat(bytes.Repeat([]byte{c}, long), e)
				n, k, err := num.Get(b)
				if wn, wk, werr := judged(b); n != wn || k != wk || err != werr {
					t.Fatalf("P1.1: Get(%x) = %d, %d, %d, want %d, %d, %d", b, n, k, err, wn, wk, werr)
				}
			}
		}
	}
}

func TestTexts(t *testing.T) {
	for _, s := range []string{"", "a", "abc", "\x00", "\xff\xfe\x80", "häuser", strings.Repeat("x", 63), strings.Repeat("y", 64),
		strings.Repeat("z", 1<<16-1), strings.Repeat("z", 1<<16)} {
		want := "ab" + string(binary.AppendVarint(nil, int64(len(s)))) + s
		b := num.PutText([]byte("ab"), s)
		if string(b) != want {
			t.Errorf("P1.1: PutText(ab, %.20q) = %.20x, want %.20x", s, b, want)
			continue
		}
		alone := b[2:]
		for _, tail := range []string{"", "d", "\xff"} {
			long := slices.Concat(alone, []byte(tail))
			if x, k, err := num.GetText(long); x != s || k != len(alone) || err != api.OK {
				t.Errorf("P1.1: GetText(%.20x) = %.20q, %d, %d, want %.20q", long, x, k, err, s)
			}
		}
		for k := range min(len(alone), 80) {
			textRefused(t, alone[:k], api.ErrMore)
		}
		textRefused(t, alone[:len(alone)-1], api.ErrMore)
	}
}

func TestTextsOfALengthThatMayNotBe(t *testing.T) {
	room := bytes.Repeat([]byte("x"), 1<<16+2)
	for _, n := range []int64{-1, -2, -64, -1 << 16, math.MinInt64, 1<<16 + 1, 1 << 17, 1 << 32, 1 << 62, math.MaxInt64} {
		textRefused(t, num.Put(nil, n), api.ErrForm)
		textRefused(t, slices.Concat(num.Put(nil, n), room), api.ErrForm)
	}
	textRefused(t, num.Put(nil, 1<<16), api.ErrMore)
	textRefused(t, num.PutText(nil, string(room[:1<<16+1])), api.ErrForm)
	if want := string(num.Put(nil, 1<<16+1)) + string(room[:1<<16+1]); string(num.PutText(nil, want[3:])) != want {
		t.Errorf("P1.1: PutText of one byte above 2^16 is not its length and its bytes")
	}
}

func TestTextsOfALengthThatIsNoNumber(t *testing.T) {
	textRefused(t, nil, api.ErrMore)
	textRefused(t, []byte{}, api.ErrMore)
	textRefused(t, []byte{0x80}, api.ErrMore)
	textRefused(t, nines(0x80), api.ErrMore)
	textRefused(t, []byte{0x80, 0}, api.ErrForm)
	textRefused(t, []byte{0x82, 0, 'a'}, api.ErrForm)
	textRefused(t, nines(0x80, 2), api.ErrForm)
	textRefused(t, nines(0xff, 0xff), api.ErrForm)
}

func TestArgumentsAreLeftAlone(t *testing.T) {
	back := []byte("abcdefghijklmnopqrstuvwxyz")
	was := string(back)
	for _, put := range []func([]byte) []byte{
		func(b []byte) []byte { return num.Put(b, -300) },
		func(b []byte) []byte { return num.PutText(b, "some text") },
		func(b []byte) []byte { return num.PutText(b, "") },
	} {
		first, second := put(back[:2]), put(back[:2])
		if string(back) != was {
			t.Fatalf("P0.3: the argument or its spare room is now %q", back)
		}
		told := string(second)
		for _, l := range [][]byte{first, first[:cap(first)]} {
			for i := range l {
				l[i] = '#'
			}
		}
		if string(back) != was || string(second) != told || string(put(back[:2])) != told {
			t.Errorf("P0.3: an answer shares memory")
		}
	}
}

func TestReadingLeavesTheBytesAlone(t *testing.T) {
	b := num.PutText(nil, "some text")
	was := string(b)
	s, _, _ := num.GetText(b)
	num.Get(b)
	if string(b) != was {
		t.Errorf("P0.3: the argument is now %q", b)
	}
	clear(b)
	if s != "some text" {
		t.Errorf("P0.3: the text is now %q", s)
	}
}

func TestNilIsEmpty(t *testing.T) {
	if a, b := num.Put(nil, 77), num.Put([]byte{}, 77); !bytes.Equal(a, b) {
		t.Errorf("P0.4: Put: %x, %x", a, b)
	}
	if a, b := num.PutText(nil, "t"), num.PutText([]byte{}, "t"); !bytes.Equal(a, b) {
		t.Errorf("P0.4: PutText: %x, %x", a, b)
	}
}
