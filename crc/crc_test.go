package crc_test

import (
	"hash/crc32"
	"strings"
	"testing"

	"carrack/crc"
)

func text(n int) string {
	b := make([]byte, n)
	x := uint32(n) + 9
	for i := range b {
		x = x*1664525 + 1013904223
		b[i] = byte(x >> 24)
	}
	return string(b)
}

// turned: s with the bit at a place turned over.
func turned(s string, bits ...int) string {
	b := []byte(s)
	for _, i := range bits {
		b[i/8] ^= 1 << (i % 8)
	}
	return string(b)
}

// P2.1: the sum of a text, whole and in parts.
func TestSum(t *testing.T) {
	if got := crc.Sum("123456789"); got != 0xCBF43926 {
		t.Errorf("example: %x", got)
	}
	if crc.Sum() != 0 || crc.Sum("") != 0 || crc.Sum("", "") != 0 {
		t.Error("of nothing")
	}
	for n := range 256 {
		for _, s := range []string{string([]byte{byte(n)}), text(n), strings.Repeat("\x00", n)} {
			want := crc32.ChecksumIEEE([]byte(s))
			if got := crc.Sum(s); got != want {
				t.Fatalf("%x: %x, not %x", s, got, want)
			}
			if got := crc.Sum(s[:len(s)/3], "", s[len(s)/3:len(s)/2], s[len(s)/2:]); got != want {
				t.Fatalf("%x in parts: %x, not %x", s, got, want)
			}
		}
	}
	s := text(1 << 17)
	if crc.Sum(s) != crc32.ChecksumIEEE([]byte(s)) {
		t.Error("long text")
	}
}

// P2.1: a sum goes on, of whatever sum.
func TestUpdate(t *testing.T) {
	s := text(99)
	for i := range len(s) + 1 {
		if got := crc.Update(crc.Sum(s[:i]), s[i:]); got != crc.Sum(s) {
			t.Fatalf("cut at %d: %x", i, got)
		}
	}
	for _, sum := range []uint32{0, 1, 0x80000000, 0xffffffff, 0x12345678} {
		if crc.Update(sum, "") != sum {
			t.Errorf("%x with nothing behind", sum)
		}
		if got, want := crc.Update(sum, s), crc32.Update(sum, crc32.IEEETable, []byte(s)); got != want {
			t.Errorf("%x: %x, not %x", sum, got, want)
		}
	}
}

// P2.1: a sum's bytes, the lowest first; what is sealed ends by them.
func TestBytesAndSeal(t *testing.T) {
	if got := crc.Bytes(0x01020384); got != "\x84\x03\x02\x01" {
		t.Errorf("%x", got)
	}
	if got := crc.Bytes(0xff000000); got != "\x00\x00\x00\xff" {
		t.Errorf("%x", got)
	}
	if got := crc.Seal("123456789"); got != "123456789\x26\x39\xf4\xcb" {
		t.Errorf("%x", got)
	}
	if got := crc.Seal(""); got != "\x00\x00\x00\x00" {
		t.Errorf("%x", got)
	}
}

// P2.1: what is right, and what is too short to be.
func TestRight(t *testing.T) {
	for n := range 70 {
		s := text(n)
		if !crc.Right(crc.Seal(s)) {
			t.Errorf("%x sealed isn't right", s)
		}
		if crc.Right(crc.Seal(s)[1:]) && n > 0 {
			t.Errorf("%x sealed and cut is right", s)
		}
	}
	for _, s := range []string{"", "\x00", "\x00\x00", "\x00\x00\x00", "123456789", "123456789\xcb\xf4\x39\x26"} {
		if crc.Right(s) {
			t.Errorf("%x is right", s)
		}
	}
	if !crc.Right("\x00\x00\x00\x00") {
		t.Error("the empty text sealed isn't right")
	}
}

// P2.2: changed within 32 bits on end it isn't right any more.
func TestBursts(t *testing.T) {
	s := crc.Seal(text(60))
	bits := 8 * len(s)
	for at := range bits {
		for _, pattern := range []uint32{1, 3, 0xffffffff, 0x80000001, 0xedb88321, 0x04c11db7, 0xa5a5a5a5} {
			b := []byte(s)
			for k := range min(32, bits-at) {
				if pattern>>k&1 == 1 {
					b[(at+k)/8] ^= 1 << ((at + k) % 8)
				}
			}
			if crc.Right(string(b)) {
				t.Fatalf("changed at %d by %x it is right", at, pattern)
			}
		}
	}
}

// P2.2: changed in one, two or three bits it isn't right any more.
func TestFewBits(t *testing.T) {
	for _, n := range []int{0, 1, 9, 300, 4000 - 4} {
		s := crc.Seal(text(n))
		bits := 8 * len(s)
		step := max(1, bits/40)
		for a := 0; a < bits; a += step {
			for b := a; b < bits; b += step {
				for c := b; c < bits; c += 3*step + 1 {
					flip := []int{a}
					if b > a {
						flip = append(flip, b)
					}
					if c > b {
						flip = append(flip, c)
					}
					if crc.Right(turned(s, flip...)) {
						t.Fatalf("length %d: bits %v turned it is right", n, flip)
					}
				}
			}
		}
	}
}
