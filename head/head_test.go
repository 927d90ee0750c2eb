package head_test

import (
	"math"
	"strings"
	"testing"

	"carrack/api"
	"carrack/crc"
	"carrack/head"
)

// sector: one of that many bytes as the document lays it, with whatever fields.
func sector(size int, letter string, gen uint64, segment byte, behind string) string {
	b := []byte(letter)
	for shift := 56; shift >= 0; shift -= 8 {
		b = append(b, byte(gen>>shift))
	}
	b = append(b, segment)
	b = append(b, behind...)
	for len(b) < size-4 {
		b = append(b, 0)
	}
	return crc.Seal(string(b))
}

func put(t *testing.T, size int, gen uint64, segment int) string {
	t.Helper()
	s, err := head.Put(size, head.Head{Gen: gen, Segment: segment})
	if err != api.OK {
		t.Fatalf("put: %d", err)
	}
	return s
}

// P6.1: a head's sector, and what it tells.
func TestPutAndGet(t *testing.T) {
	for _, size := range []int{64, 65, 300, 512} {
		for _, gen := range []uint64{1, 2, 0x0102030405060708, math.MaxUint64} {
			for segment := range 2 {
				s := put(t, size, gen, segment)
				if s != sector(size, "H", gen, byte(segment), "") {
					t.Errorf("size %d, %d, %d: %q", size, gen, segment, s)
				}
				h, err := head.Get(size, s)
				if err != api.OK || h != (head.Head{Gen: gen, Segment: segment}) {
					t.Errorf("size %d: %v, %d", size, h, err)
				}
			}
		}
	}
}

// P6.1: heads that may not be.
func TestPutWrong(t *testing.T) {
	for _, c := range []struct {
		size int
		h    head.Head
	}{
		{63, head.Head{Gen: 1}}, {513, head.Head{Gen: 1}}, {0, head.Head{Gen: 1}}, {-1, head.Head{Gen: 1}}, {math.MaxInt, head.Head{Gen: 1}},
		{64, head.Head{}}, {64, head.Head{Segment: 1}}, {64, head.Head{Gen: 1, Segment: 2}}, {64, head.Head{Gen: 1, Segment: -1}},
		{64, head.Head{Gen: 1, Segment: 256}}, {64, head.Head{Gen: 1, Segment: math.MinInt}},
	} {
		if s, err := head.Put(c.size, c.h); err != api.ErrRange || s != "" {
			t.Errorf("%v: %q, %d", c, s, err)
		}
	}
}

// P6.1: wrong sectors, and the order of their errors.
func TestGetWrong(t *testing.T) {
	good := sector(64, "H", 5, 1, "")
	for _, c := range []struct {
		name string
		size int
		s    string
		want api.Errno
	}{
		{"size below", 63, good, api.ErrRange},
		{"size above", 513, strings.Repeat("H", 513), api.ErrRange},
		{"size 0", 0, "", api.ErrRange},
		{"short", 64, good[:63], api.ErrShort},
		{"empty", 64, "", api.ErrShort},
		{"long", 64, good + "\x00", api.ErrShort},
		{"of another size", 512, good, api.ErrShort},
		{"spoilt", 64, "R" + good[1:], api.ErrSum},
		{"all 00", 64, strings.Repeat("\x00", 64), api.ErrSum},
		{"letter", 64, sector(64, "R", 5, 1, ""), api.ErrForm},
		{"generation 0", 64, sector(64, "H", 0, 1, ""), api.ErrForm},
		{"segment 2", 64, sector(64, "H", 5, 2, ""), api.ErrForm},
		{"segment 255", 64, sector(64, "H", 5, 255, ""), api.ErrForm},
		{"something behind", 64, sector(64, "H", 5, 1, "\x01"), api.ErrForm},
		{"something far behind", 64, sector(64, "H", 5, 1, strings.Repeat("\x00", 49)+"\x01"), api.ErrForm},
	} {
		if h, err := head.Get(c.size, c.s); err != c.want || h != (head.Head{}) {
			t.Errorf("%s: %v, %d", c.name, h, err)
		}
	}
}

// P6.2: the newest one, and its place.
func TestNewest(t *testing.T) {
	three, four, far := put(t, 64, 3, 1), put(t, 64, 4, 0), put(t, 64, math.MaxUint64, 1)
	spoilt := "h" + four[1:]
	none := strings.Repeat("\x00", 64)
	for _, c := range []struct {
		name  string
		l     []string
		gen   uint64
		seg   int
		place int
	}{
		{"second", []string{three, four}, 4, 0, 1},
		{"first", []string{four, three}, 4, 0, 0},
		{"the newest is spoilt", []string{three, spoilt}, 3, 1, 0},
		{"the first is spoilt", []string{spoilt, three}, 3, 1, 1},
		{"of several the first", []string{three, put(t, 64, 4, 1), four}, 4, 1, 1},
		{"of the same", []string{none, three, three}, 3, 1, 1},
		{"of many", []string{three, none, four, far, four, "", far}, math.MaxUint64, 1, 3},
		{"none", []string{none, spoilt, "", "H", three[1:]}, 0, 0, -1},
		{"nothing", nil, 0, 0, -1},
	} {
		h, place := head.Newest(64, c.l...)
		if h != (head.Head{Gen: c.gen, Segment: c.seg}) || place != c.place {
			t.Errorf("%s: %v at %d", c.name, h, place)
		}
	}
	for _, size := range []int{65, 63, 0, -1, 513} {
		if h, place := head.Newest(size, three, four); h != (head.Head{}) || place != -1 {
			t.Errorf("size %d: %v at %d", size, h, place)
		}
	}
}

// P6.2: the one behind.
func TestNext(t *testing.T) {
	for _, c := range []struct{ h, want head.Head }{
		{head.Head{Gen: 1}, head.Head{Gen: 2, Segment: 1}},
		{head.Head{Gen: 2, Segment: 1}, head.Head{Gen: 3}},
		{head.Head{}, head.Head{Gen: 1, Segment: 1}},
		{head.Head{Gen: 7, Segment: 5}, head.Head{Gen: 8}},
		{head.Head{Gen: 7, Segment: -1}, head.Head{Gen: 8}},
		{head.Head{Gen: math.MaxUint64 - 1}, head.Head{Gen: math.MaxUint64, Segment: 1}},
	} {
		if got, err := head.Next(c.h); err != api.OK || got != c.want {
			t.Errorf("%v: %v, %d", c.h, got, err)
		}
	}
	for segment := range 3 {
		if got, err := head.Next(head.Head{Gen: math.MaxUint64, Segment: segment}); err != api.ErrOver || got != (head.Head{}) {
			t.Errorf("the greatest: %v, %d", got, err)
		}
	}
}
