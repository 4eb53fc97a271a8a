package crc_test

import (
	"bytes"
	"hash/crc32"
	"math/bits"
	"strings"
	"testing"

	"recension/crc"
)

// texts are of many lengths and of all bytes, nothing among them.
func texts() [][]byte {
	all := make([]byte, 256)
	for i := range all {
		all[i] = byte(i)
	}
	return [][]byte{
		nil, {}, {0}, {0xff}, []byte("123456789"), []byte("häuser und bäume"), all,
		bytes.Repeat([]byte{0}, 70), bytes.Repeat([]byte{0xff}, 70), bytes.Repeat([]byte("abc, "), 100),
	}
}

// slow is the sum by its definition: the message's bits, the lowest of each byte
// first, divided by the polynomial as it stands in the document, not turned.
func slow(b []byte) uint32 {
	r := uint32(0xffffffff)
	for _, c := range b {
		r ^= uint32(bits.Reverse8(c)) << 24
		for range 8 {
			top := r >> 31
			r <<= 1
			if top == 1 {
				r ^= 0x04c11db7
			}
		}
	}
	return bits.Reverse32(^r)
}

func TestSumOfKnownTexts(t *testing.T) {
	for _, c := range []struct {
		s    string
		want uint32
	}{
		{"", 0},
		{"\x00", 0xd202ef8d},
		{"\xff", 0xff000000},
		{"a", 0xe8b7be43},
		{"abc", 0x352441c2},
		{"123456789", 0xcbf43926},
		{"\x00\x00\x00\x00", 0x2144df1c},
		{"\xff\xff\xff\xff", 0xffffffff},
		{"message digest", 0x20159d7f},
		{"abcdefghijklmnopqrstuvwxyz", 0x4c2750bd},
		{"The quick brown fox jumps over the lazy dog", 0x414fa339},
		{strings.Repeat("1234567890", 8), 0x7ca94a72},
	} {
		if x := crc.Sum([]byte(c.s)); x != c.want {
			t.Errorf("P2.1: Sum(%q) = %08x, want %08x", c.s, x, c.want)
		}
	}
}

func TestSumOfEachByteAndPair(t *testing.T) {
	for i := range 256 {
		for _, b := range [][]byte{{byte(i)}, {byte(i), 0}, {0, byte(i)}, {byte(i), byte(i)}} {
			if x, want := crc.Sum(b), slow(b); x != want || x != crc32.ChecksumIEEE(b) {
				t.Errorf("P2.1: Sum(%x) = %08x, want %08x", b, x, want)
			}
		}
	}
}

func TestSumOfLongTexts(t *testing.T) {
	b := make([]byte, 1<<20+3)
	for i := range b {
		b[i] = byte(i*i>>3 ^ i)
	}
	for _, n := range []int{511, 512, 513, 4095, 4096, 4097, 1 << 16, len(b)} {
		if x, want := crc.Sum(b[:n]), crc32.ChecksumIEEE(b[:n]); x != want {
			t.Errorf("P2.1: Sum of %d bytes = %08x, want %08x", n, x, want)
		}
	}
}

func TestMoreAtEveryParting(t *testing.T) {
	for _, b := range texts() {
		want := slow(b)
		if x := crc.Sum(b); x != want {
			t.Errorf("P2.1: Sum(%.20x) = %08x, want %08x", b, x, want)
		}
		for k := range len(b) + 1 {
			if x := crc.More(crc.Sum(b[:k]), b[k:]); x != want {
				t.Errorf("P2.1: More(Sum(%.20x), %.20x) = %08x, want %08x", b[:k], b[k:], x, want)
			}
		}
	}
}

func TestMoreInManyPieces(t *testing.T) {
	for _, b := range texts() {
		for step := 1; step <= 9; step++ {
			sum := uint32(0)
			for k := 0; k < len(b); k += step {
				sum = crc.More(sum, b[k:min(k+step, len(b))])
				sum = crc.More(sum, nil)
			}
			if want := slow(b); sum != want {
				t.Errorf("P2.1: %.20x in pieces of %d = %08x, want %08x", b, step, sum, want)
			}
		}
	}
}

// Each number is the sum of some text, so More has an answer at each.
func TestMoreFromAnySum(t *testing.T) {
	sums := []uint32{0, 1, 0xcbf43926, 0x7fffffff, 0x80000000, 0xfffffffe, 0xffffffff}
	for k := range 32 {
		sums = append(sums, 1<<k, ^uint32(1<<k))
	}
	for _, sum := range sums {
		for _, b := range texts() {
			if x, want := crc.More(sum, b), crc32.Update(sum, crc32.IEEETable, b); x != want {
				t.Errorf("P2.1: More(%08x, %.20x) = %08x, want %08x", sum, b, x, want)
			}
		}
		if crc.More(sum, nil) != sum || crc.More(sum, []byte{}) != sum {
			t.Errorf("P2.1, P0.4: More(%08x, nothing) is another sum", sum)
		}
	}
}

func TestArgumentsAreLeftAlone(t *testing.T) {
	back := []byte("some text, and what stands behind it")
	was := string(back)
	first := crc.Sum(back[:9])
	crc.More(first, back[:9])
	if string(back) != was {
		t.Errorf("P0.3: the argument or its spare room is now %q", back)
	}
	if crc.Sum(back[:9]) != first || crc.Sum([]byte("some text")) != first {
		t.Errorf("P0.5: another answer at the same bytes")
	}
}
