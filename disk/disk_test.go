package disk_test

import (
	"math"
	"strings"
	"testing"

	"carrack/api"
	"carrack/disk"
)

func fresh(t *testing.T, size, sectors int) *disk.Disk {
	t.Helper()
	d, err := disk.New(size, sectors)
	if err != api.OK || d == nil {
		t.Fatalf("new: %d", err)
	}
	return d
}

// full: a sector of one letter.
func full(letter string) string { return strings.Repeat(letter, 64) }

func write(t *testing.T, d *disk.Disk, sector int, s string) {
	t.Helper()
	if err := d.Write(sector, s); err != api.OK {
		t.Fatalf("write: %d", err)
	}
}

func read(t *testing.T, d *disk.Disk, sector int) string {
	t.Helper()
	s, err := d.Read(sector)
	if err != api.OK {
		t.Fatalf("read: %d", err)
	}
	return s
}

// P4.1: which disks there are.
func TestNew(t *testing.T) {
	for _, c := range [][2]int{{63, 1}, {513, 1}, {64, 0}, {64, 4097}, {0, 0}, {-64, 5}, {64, -1}, {math.MaxInt, math.MaxInt}, {math.MinInt, 1}} {
		if d, err := disk.New(c[0], c[1]); err != api.ErrRange || d != nil {
			t.Errorf("%v: %d", c, err)
		}
	}
	for _, c := range [][2]int{{64, 1}, {512, 1}, {64, 4096}, {512, 4096}, {100, 3}} {
		d := fresh(t, c[0], c[1])
		if d.Size() != c[0] || d.Sectors() != c[1] || d.Buffered() != 0 {
			t.Errorf("%v: %d, %d, %d", c, d.Size(), d.Sectors(), d.Buffered())
		}
		if d.Stable() != strings.Repeat("\x00", c[0]*c[1]) {
			t.Errorf("%v: not all 00", c)
		}
		if read(t, d, c[1]-1) != strings.Repeat("\x00", c[0]) {
			t.Errorf("%v: the last sector", c)
		}
	}
}

// P4.1: what is refused for its range changes nothing, and isn't counted.
func TestWriteRange(t *testing.T) {
	d := fresh(t, 64, 2)
	d.Arm(1)
	for _, c := range []struct {
		sector int
		s      string
	}{{-1, full("a")}, {2, full("a")}, {math.MaxInt, full("a")}, {math.MinInt, full("a")}, {0, ""}, {0, full("a")[1:]}, {0, full("a") + "a"}} {
		if err := d.Write(c.sector, c.s); err != api.ErrRange || d.Buffered() != 0 {
			t.Errorf("sector %d, %d bytes: %d", c.sector, len(c.s), err)
		}
	}
	if err := d.Write(0, full("a")); err != api.ErrIO || d.Buffered() != 0 {
		t.Errorf("the armed call: %d", err)
	}
	write(t, d, 0, full("b"))
}

// P4.1: writes are buffered, and flushed in order.
func TestWriteAndFlush(t *testing.T) {
	d := fresh(t, 64, 3)
	write(t, d, 1, full("a"))
	write(t, d, 2, full("b"))
	write(t, d, 1, full("c"))
	if d.Buffered() != 3 || d.Stable() != strings.Repeat("\x00", 192) {
		t.Error("something is stable ahead of a flush")
	}
	if read(t, d, 0) != full("\x00") || read(t, d, 1) != full("c") || read(t, d, 2) != full("b") {
		t.Error("read of the buffer")
	}
	if err := d.Flush(); err != api.OK || d.Buffered() != 0 {
		t.Error(err)
	}
	if d.Stable() != full("\x00")+full("c")+full("b") {
		t.Error("behind the flush")
	}
	if read(t, d, 1) != full("c") {
		t.Error("read behind the flush")
	}
	write(t, d, 0, full("d"))
	if d.Flush() != api.OK || d.Flush() != api.OK || d.Stable() != full("d")+full("c")+full("b") {
		t.Error("flushed again")
	}
}

// P4.2: reading, and its range.
func TestRead(t *testing.T) {
	d := fresh(t, 64, 2)
	for _, sector := range []int{-1, 2, math.MaxInt, math.MinInt} {
		if s, err := d.Read(sector); err != api.ErrRange || s != "" {
			t.Errorf("%d: %d", sector, err)
		}
	}
	d.Arm(1)
	if read(t, d, 0) != full("\x00") {
		t.Error("a read isn't counted")
	}
	if d.Flush() != api.ErrIO {
		t.Error("the armed call")
	}
}

// P4.2: the so manieth call fails, and it alone; writes and flushes count.
func TestArm(t *testing.T) {
	for n := -2; n < 8; n++ {
		d := fresh(t, 64, 2)
		write(t, d, 0, full("a"))
		d.Arm(n)
		buffered := 1
		for i := 1; i < 12; i++ {
			want := api.OK
			if i == n {
				want = api.ErrIO
			}
			var err api.Errno
			if i%3 == 0 {
				err = d.Flush()
				if want == api.OK {
					buffered = 0
				}
			} else {
				err = d.Write(1, full(string(rune('a'+i))))
				if want == api.OK {
					buffered++
				}
			}
			if err != want || d.Buffered() != buffered {
				t.Errorf("armed with %d, call %d: %d, %d buffered", n, i, err, d.Buffered())
			}
		}
	}
	d := fresh(t, 64, 1)
	d.Arm(5)
	d.Arm(1)
	if d.Flush() != api.ErrIO || d.Flush() != api.OK {
		t.Error("armed anew")
	}
	d.Arm(1)
	d.Arm(0)
	if d.Flush() != api.OK {
		t.Error("armed with 0 it isn't armed any more")
	}
	d.Arm(1)
	d.Arm(-1)
	if d.Flush() != api.OK {
		t.Error("armed with less than 0 it isn't armed any more")
	}
}

// P4.1: a flush that fails leaves all as it was.
func TestFlushFails(t *testing.T) {
	d := fresh(t, 64, 2)
	write(t, d, 0, full("a"))
	write(t, d, 1, full("b"))
	d.Arm(1)
	if d.Flush() != api.ErrIO || d.Buffered() != 2 || d.Stable() != strings.Repeat("\x00", 128) || read(t, d, 0) != full("a") {
		t.Error("the buffer stays")
	}
	if d.Flush() != api.OK || d.Stable() != full("a")+full("b") {
		t.Error("the next one goes")
	}
}

// P4.3: what a crash lets last.
func TestCrash(t *testing.T) {
	cases := []struct {
		name string
		l    []api.Write
		want string
	}{
		{"nothing told", nil, full("s") + full("\x00") + full("\x00")},
		{"none lasts", []api.Write{{}, {Torn: 5}, {}, {}}, full("s") + full("\x00") + full("\x00")},
		{"all last", []api.Write{{Lasts: true}, {Lasts: true}, {Lasts: true}, {Lasts: true}}, full("c") + full("b") + full("d")},
		{"the first", []api.Write{{Lasts: true}}, full("a") + full("\x00") + full("\x00")},
		{"the last", []api.Write{{}, {}, {}, {Lasts: true}}, full("s") + full("\x00") + full("d")},
		{"more than there are", []api.Write{{}, {Lasts: true}, {}, {}, {Lasts: true}, {Lasts: true}}, full("s") + full("b") + full("\x00")},
		{"torn", []api.Write{{Lasts: true, Torn: 3}}, "aaa" + full("s")[3:] + full("\x00") + full("\x00")},
		{"torn by one", []api.Write{{}, {Lasts: true, Torn: 1}}, full("s") + "b" + full("\x00")[1:] + full("\x00")},
		{"torn but one", []api.Write{{}, {Lasts: true, Torn: 63}}, full("s") + full("b")[1:] + "\x00" + full("\x00")},
		{"torn at the size is whole", []api.Write{{}, {Lasts: true, Torn: 64}}, full("s") + full("b") + full("\x00")},
		{"torn below 0 is whole", []api.Write{{}, {Lasts: true, Torn: -1}}, full("s") + full("b") + full("\x00")},
		{"torn far out is whole", []api.Write{{}, {Lasts: true, Torn: math.MaxInt}}, full("s") + full("b") + full("\x00")},
		{"only one is torn", []api.Write{{Lasts: true, Torn: 2}, {Lasts: true, Torn: 2}}, "aa" + full("s")[2:] + full("b") + full("\x00")},
		{"a lost one isn't torn", []api.Write{{Torn: 2}, {Lasts: true, Torn: 2}}, full("s") + "bb" + full("\x00")[2:] + full("\x00")},
		{"one that is whole isn't torn", []api.Write{{Lasts: true, Torn: 64}, {Lasts: true, Torn: 2}}, full("a") + "bb" + full("\x00")[2:] + full("\x00")},
		{"torn over what lasted", []api.Write{{Lasts: true}, {}, {Lasts: true, Torn: 10}}, full("c")[:10] + full("a")[10:] + full("\x00") + full("\x00")},
	}
	for _, c := range cases {
		d := fresh(t, 64, 3)
		write(t, d, 0, full("s"))
		d.Flush()
		write(t, d, 0, full("a"))
		write(t, d, 1, full("b"))
		write(t, d, 0, full("c"))
		write(t, d, 2, full("d"))
		d.Arm(1)
		d.Crash(c.l...)
		if d.Stable() != c.want {
			t.Errorf("%s: %q", c.name, d.Stable())
		}
		if d.Buffered() != 0 || read(t, d, 0) != c.want[:64] {
			t.Errorf("%s: the buffer isn't empty", c.name)
		}
		if d.Flush() != api.OK || d.Stable() != c.want {
			t.Errorf("%s: it is armed still, or flushes something", c.name)
		}
	}
}

// P4.3: the document's example, and two disks that have nothing in common.
func TestCrashOfNothing(t *testing.T) {
	d, other := fresh(t, 64, 2), fresh(t, 64, 2)
	write(t, d, 1, full("w"))
	if read(t, d, 1) != full("w") || read(t, other, 1) != full("\x00") || other.Buffered() != 0 {
		t.Error("read as written")
	}
	d.Crash()
	if read(t, d, 1) != full("\x00") {
		t.Error("bytes 00 again")
	}
	d.Crash(api.Write{Lasts: true, Torn: 1})
	if d.Stable() != strings.Repeat("\x00", 128) {
		t.Error("a crash without a buffer")
	}
}

// P4.3: what is handed in isn't changed.
func TestCrashKeepsItsArgument(t *testing.T) {
	d := fresh(t, 64, 2)
	write(t, d, 0, full("a"))
	l := []api.Write{{Lasts: true, Torn: 4}, {Lasts: true, Torn: 900}}
	d.Crash(l...)
	if l[0] != (api.Write{Lasts: true, Torn: 4}) || l[1] != (api.Write{Lasts: true, Torn: 900}) {
		t.Error(l)
	}
}
