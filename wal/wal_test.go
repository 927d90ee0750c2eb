package wal_test

import (
	"math"
	"slices"
	"strings"
	"testing"

	"carrack/api"
	"carrack/disk"
	"carrack/frame"
	"carrack/head"
	"carrack/wal"
)

func fresh(t *testing.T, size, sectors int) *disk.Disk {
	t.Helper()
	d, err := disk.New(size, sectors)
	if err != api.OK {
		t.Fatalf("disk: %d", err)
	}
	return d
}

func open(t *testing.T, d *disk.Disk, want ...string) *wal.Wal {
	t.Helper()
	w, records, err := wal.Open(d)
	if err != api.OK || !slices.Equal(records, want) {
		t.Fatalf("open: %d, %q, not %q", err, records, want)
	}
	return w
}

func must(t *testing.T, err api.Errno) {
	t.Helper()
	if err != api.OK {
		t.Fatalf("error %d", err)
	}
}

func stands(t *testing.T, w *wal.Wal, gen uint64, used int, ready, broken bool) {
	t.Helper()
	if w.Gen() != gen || w.Used() != used || w.Ready() != ready || w.Broken() != broken {
		t.Fatalf("generation %d, used %d, ready %v, broken %v", w.Gen(), w.Used(), w.Ready(), w.Broken())
	}
}

func at(t *testing.T, d *disk.Disk, sector int) string {
	t.Helper()
	s, err := d.Read(sector)
	must(t, err)
	return s
}

// P7.1: on a disk without heads.
func TestOpenFresh(t *testing.T) {
	d := fresh(t, 64, 8)
	w := open(t, d)
	stands(t, w, 1, 0, false, false)
	if w.Segment() != 3 || d.Buffered() != 0 {
		t.Error(w.Segment(), d.Buffered())
	}
	first, _ := head.Put(64, head.Head{Gen: 1})
	none := strings.Repeat("\x00", 64)
	if d.Stable() != none+first+strings.Repeat(none, 6) {
		t.Error("the first head isn't in sector 1, alone")
	}
	if w.Size() != 64 || w.Sectors() != 8 {
		t.Error("the log doesn't tell what its disk tells")
	}
}

// P7.1: which disks are too small, and how large segments are.
func TestOpenRange(t *testing.T) {
	for n := 1; n < 4; n++ {
		d := fresh(t, 64, n)
		d.Arm(1)
		if w, l, err := wal.Open(d); err != api.ErrRange || w != nil || len(l) != 0 {
			t.Errorf("%d sectors: %d", n, err)
		}
		if d.Flush() != api.ErrIO {
			t.Error("the disk was called")
		}
	}
	for _, c := range [][2]int{{4, 1}, {5, 1}, {6, 2}, {7, 2}, {4096, 2047}} {
		if w := open(t, fresh(t, 64, c[0])); w.Segment() != c[1] {
			t.Errorf("%d sectors: %d", c[0], w.Segment())
		}
	}
}

// P7.1: ErrIO as soon as a call fails; what is called, and no more.
func TestOpenFails(t *testing.T) {
	for n := 1; n <= 3; n++ {
		d := fresh(t, 64, 8)
		d.Arm(n)
		if w, l, err := wal.Open(d); err != api.ErrIO || w != nil || len(l) != 0 {
			t.Errorf("call %d: %d", n, err)
		}
		if want := max(0, n-2); d.Buffered() != want {
			t.Errorf("call %d: %d buffered", n, d.Buffered())
		}
	}
	d := fresh(t, 64, 8)
	d.Arm(4)
	open(t, d)
	if d.Flush() != api.ErrIO {
		t.Error("a fresh disk is called three times")
	}
	d.Arm(2)
	open(t, d)
	if d.Flush() != api.ErrIO {
		t.Error("a disk with a head is called once")
	}
}

// P7.1: the newest head's segment, of its generation; what is buffered counts.
func TestOpenFindsNewest(t *testing.T) {
	for place := range 2 {
		d := fresh(t, 64, 8)
		old, _ := head.Put(64, head.Head{Gen: 4, Segment: 1})
		young, _ := head.Put(64, head.Head{Gen: 5, Segment: 0})
		must(t, d.Write(place, young))
		must(t, d.Write(1-place, old))
		for segment := range 2 {
			for serial, name := range []string{"a", "b"} {
				l, _ := frame.Split(64, uint64(5-segment), uint64(serial), name+string(rune('0'+segment)))
				must(t, d.Write(2+3*segment+serial, l[0]))
			}
		}
		w := open(t, d, "a0", "b0")
		stands(t, w, 5, 2, false, false)
		if d.Buffered() != 0 {
			t.Error("what was buffered isn't flushed")
		}
		must(t, w.Checkpoint("next"))
		next, _ := head.Put(64, head.Head{Gen: 6, Segment: 1})
		if at(t, d, 1-place) != next || at(t, d, place) != young {
			t.Error("the head isn't written to the other sector")
		}
	}
	d := fresh(t, 64, 8)
	h, _ := head.Put(64, head.Head{Gen: 9, Segment: 1})
	must(t, d.Write(0, h))
	l, _ := frame.Split(64, 8, 0, "old")
	must(t, d.Write(5, l[0]))
	stands(t, open(t, d), 9, 0, false, false)
}

// The document's example.
func TestExample(t *testing.T) {
	d := fresh(t, 64, 8)
	w := open(t, d)
	must(t, w.Checkpoint("a"))
	stands(t, w, 2, 1, true, false)
	must(t, w.Append("b"))
	stands(t, w, 2, 2, true, false)
	w = open(t, d, "a", "b")
	stands(t, w, 2, 2, false, false)
	open(t, d, "a", "b")
}

// P7.2: where an append is written, and that it is flushed.
func TestAppend(t *testing.T) {
	d := fresh(t, 64, 22)
	w := open(t, d)
	must(t, w.Checkpoint(""))
	records := []string{""}
	from := 13
	for i, s := range []string{strings.Repeat("x", 40), "", strings.Repeat("y", 117), "z"} {
		must(t, w.Append(s))
		want, _ := frame.Split(64, 2, uint64(i)+1, s)
		for _, sector := range want {
			if at(t, d, from) != sector {
				t.Errorf("record %d: sector %d", i, from)
			}
			from++
		}
		if d.Buffered() != 0 {
			t.Error("it isn't flushed")
		}
		records = append(records, s)
	}
	stands(t, w, 2, 8, true, false)
	d.Crash()
	open(t, d, records...)
}

// P7.2: what is refused, in which order; it changes nothing, and calls nothing.
func TestAppendRefused(t *testing.T) {
	d := fresh(t, 64, 8)
	w := open(t, d)
	long := strings.Repeat("x", 4097)
	d.Arm(1)
	if w.Append("a") != api.ErrOrder || w.Append(long) != api.ErrOrder {
		t.Error("ahead of a checkpoint")
	}
	if d.Flush() != api.ErrIO {
		t.Error("the disk was called")
	}
	must(t, w.Checkpoint("a"))
	stable := d.Stable()
	d.Arm(1)
	if w.Append(long) != api.ErrRange || w.Append(strings.Repeat("x", 79)) != api.ErrFull || w.Append(strings.Repeat("x", 4096)) != api.ErrFull {
		t.Error("too long")
	}
	if d.Flush() != api.ErrIO || d.Stable() != stable {
		t.Error("the disk was called")
	}
	stands(t, w, 2, 1, true, false)
	must(t, w.Append(strings.Repeat("x", 78)))
	stands(t, w, 2, 3, true, false)
	if w.Append("") != api.ErrFull {
		t.Error("full")
	}
	w = open(t, d, "a", strings.Repeat("x", 78))
	if w.Append("a") != api.ErrOrder {
		t.Error("opened anew it isn't ready")
	}
}

// P7.2: a call that fails breaks the log; no more is written.
func TestAppendFails(t *testing.T) {
	s := strings.Repeat("x", 100)
	for n := 1; n <= 4; n++ {
		d := fresh(t, 64, 12)
		w := open(t, d)
		must(t, w.Checkpoint("a"))
		d.Arm(n)
		if err := w.Append(s); err != api.ErrIO {
			t.Fatalf("call %d: %d", n, err)
		}
		stands(t, w, 2, 1, true, true)
		if d.Buffered() != n-1 {
			t.Errorf("call %d: %d buffered", n, d.Buffered())
		}
		d.Arm(1)
		long := strings.Repeat("x", 4097)
		if w.Append("b") != api.ErrHalt || w.Append(long) != api.ErrHalt || w.Checkpoint("b") != api.ErrHalt || w.Checkpoint(long) != api.ErrHalt {
			t.Error("a broken log goes on")
		}
		if d.Flush() != api.ErrIO {
			t.Error("the disk was called")
		}
	}
	d := fresh(t, 64, 12)
	w := open(t, d)
	must(t, w.Checkpoint("a"))
	d.Arm(5)
	must(t, w.Append(s))
	if d.Flush() != api.ErrIO {
		t.Error("three writes and one flush")
	}
}

// P7.3: a checkpoint is alone in the other segment; segments and heads' sectors take turns.
func TestCheckpoint(t *testing.T) {
	d := fresh(t, 64, 9)
	w := open(t, d)
	for i, s := range []string{"a", strings.Repeat("b", 100), "", strings.Repeat("d", 40), "e"} {
		gen, segment := uint64(i)+2, (i+1)%2
		must(t, w.Checkpoint(s))
		sectors, _ := frame.Split(64, gen, 0, s)
		stands(t, w, gen, len(sectors), true, false)
		for k, want := range sectors {
			if at(t, d, 2+3*segment+k) != want {
				t.Errorf("checkpoint %d: sector %d", i, k)
			}
		}
		h, _ := head.Put(64, head.Head{Gen: gen, Segment: segment})
		if at(t, d, i%2) != h || d.Buffered() != 0 {
			t.Errorf("checkpoint %d: head", i)
		}
		if w.Fits(0) {
			must(t, w.Append("more"))
			open(t, d, s, "more")
		} else {
			open(t, d, s)
		}
	}
	if s := at(t, d, 8); s != strings.Repeat("\x00", 64) {
		t.Error("the sector behind the segments was written")
	}
}

// P7.3: what is refused, in which order.
func TestCheckpointRefused(t *testing.T) {
	long, full := strings.Repeat("x", 4097), strings.Repeat("x", 118)
	d := fresh(t, 64, 8)
	h, _ := head.Put(64, head.Head{Gen: math.MaxUint64, Segment: 1})
	must(t, d.Write(0, h))
	w := open(t, d)
	d.Arm(1)
	if w.Checkpoint(long) != api.ErrRange || w.Checkpoint(full) != api.ErrFull || w.Checkpoint(full[:117]) != api.ErrOver || w.Checkpoint("") != api.ErrOver {
		t.Error("at the greatest generation")
	}
	if d.Flush() != api.ErrIO {
		t.Error("the disk was called")
	}
	stands(t, w, math.MaxUint64, 0, false, false)

	d = fresh(t, 64, 8)
	w = open(t, d)
	must(t, w.Checkpoint("a"))
	must(t, w.Append("b"))
	if w.Checkpoint(long) != api.ErrRange || w.Checkpoint(full) != api.ErrFull {
		t.Error("too long")
	}
	stands(t, w, 2, 2, true, false)
	must(t, w.Checkpoint(full[:117]))
	stands(t, w, 3, 3, true, false)
	open(t, d, full[:117])

	d = fresh(t, 64, 8)
	h, _ = head.Put(64, head.Head{Gen: math.MaxUint64 - 1, Segment: 1})
	must(t, d.Write(0, h))
	w = open(t, d)
	must(t, w.Checkpoint("last"))
	must(t, w.Append("more"))
	if w.Checkpoint("x") != api.ErrOver {
		t.Error("behind the last generation")
	}
	must(t, w.Append("still"))
	open(t, d, "last", "more", "still")
}

// P7.3: a call that fails breaks the log.
func TestCheckpointFails(t *testing.T) {
	s := strings.Repeat("x", 100)
	buffered := []int{0, 1, 2, 3, 0, 1}
	for n := 1; n <= 6; n++ {
		d := fresh(t, 64, 12)
		w := open(t, d)
		must(t, w.Checkpoint("a"))
		must(t, w.Append("b"))
		d.Arm(n)
		if err := w.Checkpoint(s); err != api.ErrIO {
			t.Fatalf("call %d: %d", n, err)
		}
		stands(t, w, 2, 2, true, true)
		if d.Buffered() != buffered[n-1] {
			t.Errorf("call %d: %d buffered", n, d.Buffered())
		}
		if w.Append("c") != api.ErrHalt || w.Checkpoint("c") != api.ErrHalt {
			t.Error("a broken log goes on")
		}
	}
	d := fresh(t, 64, 12)
	w := open(t, d)
	d.Arm(1)
	if w.Checkpoint(s) != api.ErrIO {
		t.Error("the first call")
	}
	stands(t, w, 1, 0, false, true)
	d = fresh(t, 64, 12)
	w = open(t, d)
	d.Arm(7)
	must(t, w.Checkpoint(s))
	if d.Flush() != api.ErrIO {
		t.Error("three writes and a flush, one write and a flush")
	}
}

// P7.4: what could be appended, as far as room goes.
func TestFits(t *testing.T) {
	d := fresh(t, 64, 8)
	w := open(t, d)
	check := func(most int) {
		t.Helper()
		for _, n := range []int{-1, math.MinInt, 4097, math.MaxInt} {
			if w.Fits(n) {
				t.Errorf("%d fit", n)
			}
		}
		for n := range 200 {
			if w.Fits(n) != (n <= most) {
				t.Errorf("%d of %d", n, most)
			}
		}
	}
	check(117)
	must(t, w.Checkpoint("a"))
	check(78)
	must(t, w.Append("b"))
	check(39)
	d.Arm(1)
	if w.Append("c") != api.ErrIO {
		t.Error("it must fail")
	}
	check(39)
	w = open(t, fresh(t, 64, 4096))
	if !w.Fits(4096) || w.Fits(4097) || !w.Fits(0) {
		t.Error("a large disk")
	}
}

// call is an Append or, else, a Checkpoint.
type call struct {
	append bool
	s      string
}

func (c call) do(w *wal.Wal) api.Errno {
	if c.append {
		return w.Append(c.s)
	}
	return w.Checkpoint(c.s)
}

func (c call) behind(records []string) []string {
	if c.append {
		return append(slices.Clone(records), c.s)
	}
	return []string{c.s}
}

// crashes: each way in which so many writes may last, with none or one of them torn.
func crashes(writes int) [][]api.Write {
	var all [][]api.Write
	for mask := range 1 << writes {
		l := make([]api.Write, writes)
		for i := range l {
			l[i].Lasts = mask>>i&1 == 1
		}
		all = append(all, l)
		for i := range l {
			for _, torn := range []int{1, 8, 9, 10, 20, 21, 23, 30, 59, 60, 61, 62, 63} {
				if l[i].Lasts {
					k := slices.Clone(l)
					k[i].Torn = torn
					all = append(all, k)
				}
			}
		}
	}
	return all
}

// lasts: the calls are made, the failing one fails at a call of the disk; then it crashes.
func lasts(t *testing.T, calls []call, failing, armed int, writes []api.Write) (more bool, buffered int) {
	t.Helper()
	d := fresh(t, 64, 10)
	w := open(t, d)
	var was, now []string
	for i, c := range calls[:failing+1] {
		if i == failing {
			d.Arm(armed)
		}
		now = c.behind(was)
		if err := c.do(w); err != api.OK {
			break
		}
		was = now
		now = nil
	}
	failed := w.Broken()
	buffered = d.Buffered()
	d.Crash(writes...)
	w, got, err := wal.Open(d)
	if err != api.OK || !slices.Equal(got, was) && !(failed && slices.Equal(got, now)) {
		t.Fatalf("call %d, armed %d, %v: %d, %q, not %q or %q", failing, armed, writes, err, got, was, now)
	}
	used := w.Used()
	if w = open(t, d, got...); w.Used() != used {
		t.Fatal("opened twice it isn't the same")
	}
	must(t, w.Checkpoint("anew"))
	must(t, w.Append("more"))
	open(t, d, "anew", "more")
	return failed, buffered
}

// P7.5: whatever of the buffer a crash lets last.
func TestTheLogLasts(t *testing.T) {
	calls := []call{
		{false, "a"}, {true, "b"}, {true, strings.Repeat("c", 60)}, {false, strings.Repeat("d", 100)},
		{true, "e"}, {false, "f"}, {true, strings.Repeat("g", 80)}, {false, ""}, {true, ""},
	}
	for failing := range calls {
		for armed := 1; ; armed++ {
			more, buffered := lasts(t, calls, failing, armed, nil)
			if !more {
				break
			}
			for _, l := range crashes(buffered) {
				lasts(t, calls, failing, armed, l)
			}
		}
	}
}

// P7.5: opened anew without a crash, what was buffered may count.
func TestBrokenAndOpenedAnew(t *testing.T) {
	for armed := 1; armed < 4; armed++ {
		d := fresh(t, 64, 10)
		w := open(t, d)
		must(t, w.Checkpoint("a"))
		d.Arm(armed)
		err := w.Append(strings.Repeat("b", 60))
		_, got, err2 := wal.Open(d)
		if err2 != api.OK || len(got) == 0 || len(got) > 2 || got[0] != "a" || err == api.OK && len(got) != 2 {
			t.Errorf("armed %d: %q, %d", armed, got, err2)
		}
	}
}

// P7.5: a log that goes on through many crashes.
func TestManyCrashes(t *testing.T) {
	d := fresh(t, 64, 12)
	w := open(t, d)
	x := uint32(7)
	draw := func(n int) int {
		x = x*1664525 + 1013904223
		return int(x>>16) % n
	}
	var was []string
	ready := false
	for i := range 4000 {
		s := strings.Repeat(string(rune('a'+i%26)), draw(90))
		c := call{ready && draw(4) > 0, s}
		if draw(5) == 0 {
			d.Arm(1 + draw(6))
		}
		now := c.behind(was)
		err := c.do(w)
		switch err {
		case api.OK:
			was, ready = now, true
		case api.ErrFull:
		case api.ErrIO:
			writes := make([]api.Write, d.Buffered())
			for k := range writes {
				writes[k] = api.Write{Lasts: draw(2) == 0, Torn: draw(70)}
			}
			d.Crash(writes...)
			again, got, err := wal.Open(d)
			if err != api.OK || !slices.Equal(got, was) && !slices.Equal(got, now) {
				t.Fatalf("step %d: %d, %q, not %q or %q", i, err, got, was, now)
			}
			w, was, ready = again, got, false
		default:
			t.Fatalf("step %d: %d", i, err)
		}
		if w.Used() > w.Segment() || w.Used() < len(was) {
			t.Fatalf("step %d: %d sectors of %d, %d records", i, w.Used(), w.Segment(), len(was))
		}
	}
}
