package frame_test

import (
	"math"
	"slices"
	"strings"
	"testing"

	"carrack/api"
	"carrack/crc"
	"carrack/frame"
)

func text(n int) string {
	b := make([]byte, n)
	x := uint32(n) + 5
	for i := range b {
		x = x*1664525 + 1013904223
		b[i] = byte(x >> 24)
	}
	return string(b)
}

func split(t *testing.T, size int, gen, serial uint64, s string) []string {
	t.Helper()
	l, err := frame.Split(size, gen, serial, s)
	if err != api.OK {
		t.Fatalf("split: %d", err)
	}
	return l
}

// whole: records one behind the other, of serials from 0 on.
func whole(t *testing.T, size int, gen uint64, records ...string) string {
	t.Helper()
	all := ""
	for i, r := range records {
		all += strings.Join(split(t, size, gen, uint64(i), r), "")
	}
	return all
}

// sector: one as the document lays it, with whatever fields, of size 64.
func sector(letter string, gen, serial uint64, part, parts, length int, behind string) string {
	b := []byte(letter)
	for _, n := range []uint64{gen, serial} {
		for shift := 56; shift >= 0; shift -= 8 {
			b = append(b, byte(n>>shift))
		}
	}
	b = append(b, byte(part), byte(parts), byte(length>>8), byte(length))
	b = append(b, behind...)
	for len(b) < 60 {
		b = append(b, 0)
	}
	return crc.Seal(string(b[:60]))
}

// P5.1: how many parts a record has.
func TestParts(t *testing.T) {
	for _, c := range [][3]int{
		{64, 0, 1}, {64, 1, 1}, {64, 39, 1}, {64, 40, 2}, {64, 78, 2}, {64, 79, 3}, {64, 4096, 106},
		{512, 0, 1}, {512, 487, 1}, {512, 488, 2}, {512, 4096, 9}, {65, 40, 1}, {65, 41, 2},
		{63, 1, 0}, {513, 1, 0}, {64, -1, 0}, {64, 4097, 0}, {0, 0, 0}, {-64, 0, 0}, {25, 3, 0},
		{math.MaxInt, 1, 0}, {64, math.MaxInt, 0}, {math.MinInt, 1, 0}, {64, math.MinInt, 0},
	} {
		if got := frame.Parts(c[0], c[1]); got != c[2] {
			t.Errorf("size %d, %d bytes: %d, not %d", c[0], c[1], got, c[2])
		}
	}
}

// P5.1: a record's sectors, byte by byte.
func TestSplit(t *testing.T) {
	s := text(100)
	got := split(t, 64, 0x0102, 0xff00000000000003, s)
	want := []string{
		sector("R", 0x0102, 0xff00000000000003, 0, 3, 39, s[:39]),
		sector("R", 0x0102, 0xff00000000000003, 1, 3, 39, s[39:78]),
		sector("R", 0x0102, 0xff00000000000003, 2, 3, 22, s[78:]),
	}
	if !slices.Equal(got, want) {
		t.Errorf("%q", got)
	}
	if got := split(t, 64, 1, 0, ""); !slices.Equal(got, []string{sector("R", 1, 0, 0, 1, 0, "")}) {
		t.Errorf("of nothing: %q", got)
	}
	if got := split(t, 64, 1, 0, s[:39]); !slices.Equal(got, []string{sector("R", 1, 0, 0, 1, 39, s[:39])}) {
		t.Errorf("just full: %q", got)
	}
	for _, size := range []int{64, 65, 100, 512} {
		for _, n := range []int{0, 1, size - 25, size - 24, 2 * (size - 25), 4096} {
			if l := split(t, size, 7, 8, text(n)); len(l) != frame.Parts(size, n) || len(l[0]) != size || len(l[len(l)-1]) != size {
				t.Errorf("size %d, %d bytes: %d sectors", size, n, len(l))
			}
		}
	}
	for _, c := range []struct{ size, n int }{{63, 1}, {513, 1}, {64, 4097}, {0, 0}, {-1, 0}} {
		if l, err := frame.Split(c.size, 1, 1, text(c.n)); err != api.ErrRange || len(l) != 0 {
			t.Errorf("%v: %d", c, err)
		}
	}
}

// P5.1: what sectors tell.
func TestRead(t *testing.T) {
	for _, size := range []int{64, 99, 512} {
		for _, n := range []int{0, 1, size - 25, size - 24, 3*(size-25) + 1, 4096} {
			s := text(n)
			all := ""
			l := split(t, size, math.MaxUint64, 1<<40, s)
			for i, sec := range l {
				p, err := frame.Read(size, sec)
				if err != api.OK || p.Gen != math.MaxUint64 || p.Serial != 1<<40 || p.Part != i || p.Parts != len(l) {
					t.Fatalf("size %d, %d bytes, part %d: %v, %d", size, n, i, p, err)
				}
				all += p.Bytes
			}
			if all != s {
				t.Errorf("size %d: %d bytes aren't read as they were", size, n)
			}
		}
	}
}

// P5.1: wrong sectors, and the order of their errors.
func TestReadWrong(t *testing.T) {
	good := sector("R", 1, 2, 0, 1, 3, "abc")
	full := text(39)
	last := 4096 - 105*39
	cases := []struct {
		name string
		size int
		s    string
		want api.Errno
	}{
		{"good", 64, good, api.OK},
		{"size below", 63, good, api.ErrRange},
		{"size above", 513, strings.Repeat("x", 513), api.ErrRange},
		{"size 0", 0, "", api.ErrRange},
		{"short", 64, good[:63], api.ErrShort},
		{"empty", 64, "", api.ErrShort},
		{"long", 64, good + "\x00", api.ErrShort},
		{"other size", 65, good, api.ErrShort},
		{"spoilt", 64, "S" + good[1:], api.ErrSum},
		{"all 00", 64, strings.Repeat("\x00", 64), api.ErrSum},
		{"letter", 64, sector("H", 1, 2, 0, 1, 3, "abc"), api.ErrForm},
		{"small letter", 64, sector("r", 1, 2, 0, 1, 3, "abc"), api.ErrForm},
		{"no parts", 64, sector("R", 1, 2, 0, 0, 3, "abc"), api.ErrForm},
		{"part behind", 64, sector("R", 1, 2, 1, 1, 3, "abc"), api.ErrForm},
		{"part far behind", 64, sector("R", 1, 2, 255, 2, 3, "abc"), api.ErrForm},
		{"part behind, full", 64, sector("R", 1, 2, 1, 1, 39, full), api.ErrForm},
		{"part behind two, full", 64, sector("R", 1, 2, 2, 2, 39, full), api.ErrForm},
		{"part far behind, full", 64, sector("R", 1, 2, 255, 2, 39, full), api.ErrForm},
		{"first of two isn't full", 64, sector("R", 1, 2, 0, 2, 38, full[:38]), api.ErrForm},
		{"first of two", 64, sector("R", 1, 2, 0, 2, 39, full), api.OK},
		{"last of two", 64, sector("R", 1, 2, 1, 2, 1, "a"), api.OK},
		{"last of two is empty", 64, sector("R", 1, 2, 1, 2, 0, ""), api.ErrForm},
		{"only one, empty", 64, sector("R", 1, 2, 0, 1, 0, ""), api.OK},
		{"more than room", 64, sector("R", 1, 2, 0, 1, 40, full+"a"), api.ErrForm},
		{"more than the sector", 64, sector("R", 1, 2, 0, 1, 300, full), api.ErrForm},
		{"length of all", 64, sector("R", 1, 2, 0, 1, 65535, full), api.ErrForm},
		{"bytes behind", 64, sector("R", 1, 2, 0, 1, 3, "abcd"), api.ErrForm},
		{"a byte far behind", 64, sector("R", 1, 2, 0, 1, 3, "abc"+strings.Repeat("\x00", 35)+"z"), api.ErrForm},
		{"most parts", 64, sector("R", 1, 2, 105, 106, last, full[:last]), api.OK},
		{"most parts, the first", 64, sector("R", 1, 2, 0, 106, 39, full), api.OK},
		{"longer than a record", 64, sector("R", 1, 2, 105, 106, last+1, full[:last+1]), api.ErrForm},
		{"too many parts", 64, sector("R", 1, 2, 0, 107, 39, full), api.ErrForm},
		{"255 parts", 64, sector("R", 1, 2, 254, 255, 1, "a"), api.ErrForm},
	}
	for _, c := range cases {
		p, err := frame.Read(c.size, c.s)
		if err != c.want || err != api.OK && p != (frame.Part{}) {
			t.Errorf("%s: %v, %d, not %d", c.name, p, err, c.want)
		}
	}
}

// P5.2 and P5.3: what was split is scanned as it was, whatever stands behind.
func TestScan(t *testing.T) {
	for _, size := range []int{64, 80, 512} {
		records := []string{text(100), "", "a", text(size - 25), text(size - 24), text(4096)}
		for n := range len(records) + 1 {
			all := whole(t, size, 9, records[:n]...)
			behind := []string{
				"", "x", strings.Repeat("\x00", size), strings.Repeat("\x00", 3*size), all,
				strings.Join(split(t, size, 9, uint64(n)+1, "later"), ""),
				strings.Join(split(t, size, 8, uint64(n), "other"), ""),
				strings.Join(split(t, size, 9, uint64(n), text(500))[1:], ""),
				split(t, size, 9, uint64(n), text(3*size))[0],
				strings.Join(split(t, size, 9, uint64(n), "cut"), "")[:size-1],
			}
			for i, b := range behind {
				if n == 0 && i == 4 {
					continue
				}
				got, used := frame.Scan(size, 9, all+b)
				if !slices.Equal(got, records[:n]) || used != len(all)/size {
					t.Fatalf("size %d, %d records, case %d: %d records, %d sectors", size, n, i, len(got), used)
				}
			}
		}
	}
}

// P5.2: what isn't the next record ends the scan.
func TestScanEnds(t *testing.T) {
	full := text(39)
	a, b := sector("R", 3, 0, 0, 2, 39, full), sector("R", 3, 0, 1, 2, 1, "z")
	c := sector("R", 3, 1, 0, 1, 1, "c")
	cases := []struct {
		name    string
		s       string
		records []string
		used    int
	}{
		{"all", a + b + c, []string{full + "z", "c"}, 3},
		{"not from serial 0", c, nil, 0},
		{"not from part 0", b + c, nil, 0},
		{"a part is missing", a + c, nil, 0},
		{"the first part twice", a + a + b, nil, 0},
		{"parts turned round", b + a, nil, 0},
		{"other generation", sector("R", 4, 0, 0, 1, 1, "a") + c, nil, 0},
		{"parts of two generations", a + sector("R", 2, 0, 1, 2, 1, "z"), nil, 0},
		{"parts of two serials", a + sector("R", 3, 1, 1, 2, 1, "z"), nil, 0},
		{"told to be of three", a + sector("R", 3, 0, 1, 3, 39, full), nil, 0},
		{"told to be of two, then of three", a + sector("R", 3, 0, 1, 3, 39, full) + sector("R", 3, 0, 2, 3, 1, "z"), nil, 0},
		{"told to be of three, then of two", sector("R", 3, 0, 0, 3, 39, full) + b, nil, 0},
		{"the last one of three", a + sector("R", 3, 0, 2, 3, 1, "z"), nil, 0},
		{"spoilt", a + "x" + b[1:] + c, nil, 0},
		{"spoilt behind", a + b + "x" + c[1:], []string{full + "z"}, 2},
		{"something ahead", strings.Repeat("\x00", 64) + a + b, nil, 0},
		{"cut", (a + b + c)[:191], []string{full + "z"}, 2},
		{"nothing", "", nil, 0},
		{"serial twice", a + b + a + b, []string{full + "z"}, 2},
	}
	for _, k := range cases {
		got, used := frame.Scan(64, 3, k.s)
		if !slices.Equal(got, k.records) || used != k.used {
			t.Errorf("%s: %q, %d", k.name, got, used)
		}
	}
	for _, size := range []int{63, 513, 0, -1, -64, math.MinInt, math.MaxInt} {
		if got, used := frame.Scan(size, 3, strings.Repeat("R", 600)); len(got) != 0 || used != 0 {
			t.Errorf("size %d: %q, %d", size, got, used)
		}
	}
}
