package sha_test

import (
	"crypto/sha256"
	"encoding/hex"
	"strings"
	"testing"

	"carrack/sha"
)

func want(s string) string {
	d := sha256.Sum256([]byte(s))
	return string(d[:])
}

// text: n bytes that don't repeat soon.
func text(n int) string {
	b := make([]byte, n)
	x := uint32(n) + 1
	for i := range b {
		x = x*1664525 + 1013904223
		b[i] = byte(x >> 24)
	}
	return string(b)
}

// P1.1: every length around the edges of blocks, and long ones.
func TestSumOfLengths(t *testing.T) {
	for n := range 400 {
		s := text(n)
		if got := sha.Sum(s); got != want(s) {
			t.Errorf("length %d: %x", n, got)
		}
	}
	for _, n := range []int{4095, 4096, 4151, 4152, 8191, 8192, 65535, 65536, 1<<21 + 7} {
		s := text(n)
		if got := sha.Sum(s); got != want(s) {
			t.Errorf("length %d: %x", n, got)
		}
	}
	for _, s := range []string{strings.Repeat("\x00", 64), strings.Repeat("\xff", 129), "\x80", "\x00"} {
		if got := sha.Sum(s); got != want(s) {
			t.Errorf("%x: %x", s, got)
		}
	}
}

// P1.1: the document's examples.
func TestExamples(t *testing.T) {
	const empty = "e3b0c44298fc1c149afbf4c8996fb92427ae41e4649b934ca495991b7852b855"
	const abc = "ba7816bf8f01cfea414140de5dae2223b00361a396177a9cb410ff61f20015ad"
	for _, got := range []string{sha.Sum(), sha.Sum(""), sha.Sum("", "", ""), sha.New().Sum()} {
		if sha.Hex(got) != empty {
			t.Errorf("empty text: %x", got)
		}
	}
	for _, got := range []string{sha.Sum("abc"), sha.Sum("a", "", "bc"), sha.Sum("ab", "c")} {
		if sha.Hex(got) != abc {
			t.Errorf("abc: %x", got)
		}
	}
}

// P1.1: a hash is written to still behind Sum, and knows its length.
func TestHashGoesOn(t *testing.T) {
	h := sha.New()
	all := ""
	for n := range 150 {
		if h.Len() != len(all) {
			t.Fatalf("length %d, not %d", h.Len(), len(all))
		}
		if h.Sum() != want(all) || h.Sum() != want(all) {
			t.Fatalf("sum at %d", len(all))
		}
		part := text(n % 67)
		h.Write(part)
		all += part
	}
	h.Write("")
	if h.Len() != len(all) || h.Sum() != want(all) {
		t.Error("an empty part changed something")
	}
}

// P1.1: two hashes have nothing in common.
func TestHashesAreApart(t *testing.T) {
	a, b := sha.New(), sha.New()
	a.Write("left")
	b.Write("right")
	if a.Sum() != want("left") || b.Sum() != want("right") || a.Len() != 4 || b.Len() != 5 {
		t.Error("hashes share something")
	}
}

// P1.2: each byte by two digits.
func TestHex(t *testing.T) {
	if sha.Hex("") != "" {
		t.Error("of nothing")
	}
	for n := range 256 {
		s := string([]byte{byte(n)})
		if got := sha.Hex(s); got != hex.EncodeToString([]byte(s)) {
			t.Errorf("%d: %q", n, got)
		}
	}
	if got := sha.Hex("\x01\xab\x00\xff\x9f"); got != "01ab00ff9f" {
		t.Error(got)
	}
}

// P1.3: how a text is parted plays no part.
func TestParts(t *testing.T) {
	s := text(201)
	for i := range len(s) {
		for _, k := range []int{i, (i + len(s)) / 2} {
			if got := sha.Sum(s[:i], s[i:k], s[k:]); got != want(s) {
				t.Fatalf("cut at %d and %d: %x", i, k, got)
			}
		}
	}
	for size := 1; size < 140; size++ {
		h := sha.New()
		for at := 0; at < len(s); at += size {
			h.Write(s[at:min(at+size, len(s))])
		}
		if h.Sum() != want(s) || h.Len() != len(s) {
			t.Fatalf("parts of %d", size)
		}
	}
}
