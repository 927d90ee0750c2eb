package journal_test

import (
	"math"
	"slices"
	"strings"
	"testing"

	"carrack/api"
	"carrack/disk"
	"carrack/frame"
	"carrack/head"
	"carrack/journal"
	"carrack/record"
	"carrack/wal"
)

var start = [2]api.Place{{Height: 5}, {Height: 7, Index: 2}}

func fresh(t *testing.T, sectors int) *disk.Disk {
	t.Helper()
	d, err := disk.New(64, sectors)
	if err != api.OK {
		t.Fatal(err)
	}
	return d
}

func open(t *testing.T, d *disk.Disk, room int) *journal.Journal {
	t.Helper()
	j, err := journal.Open(d, room, start)
	if err != api.OK || j == nil {
		t.Fatalf("open: %d", err)
	}
	if j.Halted() {
		t.Fatal("opened it is halted")
	}
	return j
}

func note(kind, from int, seq uint64) api.Note {
	return api.Note{Kind: kind, Packet: api.Packet{From: from, Seq: seq, Timeout: 9, Data: "data"}}
}

func item(stage, from int, seq uint64) api.Item {
	return api.Item{Stage: stage, Packet: note(0, from, seq).Packet}
}

func same(a, b api.Daemon) bool {
	return a.Places == b.Places && slices.Equal(a.Items, b.Items)
}

func must(t *testing.T, err api.Errno) {
	t.Helper()
	if err != api.OK {
		t.Fatalf("error %d", err)
	}
}

func stands(t *testing.T, j *journal.Journal, first, second api.Place, items ...api.Item) {
	t.Helper()
	if got := j.State(); !same(got, api.Daemon{Places: [2]api.Place{first, second}, Items: items}) {
		t.Fatalf("%v", got)
	}
}

// P18.1: on an empty disk, and the document's example.
func TestExample(t *testing.T) {
	d := fresh(t, 40)
	j := open(t, d, 3)
	stands(t, j, start[0], start[1])
	if j.Gen() != 2 || j.Used() != 1 {
		t.Error(j.Gen(), j.Used())
	}
	at := api.Place{Height: 6, Index: 1}
	must(t, j.Scan(0, at, []api.Note{note(api.Sent, 0, 1)}))
	stands(t, j, at, start[1], item(api.ToRecv, 0, 1))
	if j.Gen() != 2 || j.Used() != 3 || d.Buffered() != 0 {
		t.Error(j.Gen(), j.Used())
	}
	d.Crash()
	other := [2]api.Place{{Height: 99}, {Height: 99}}
	j, err := journal.Open(d, 3, other)
	must(t, err)
	stands(t, j, at, start[1], item(api.ToRecv, 0, 1))
	if j.Gen() != 3 || j.Used() != 2 {
		t.Error(j.Gen(), j.Used())
	}
	j = open(t, d, 3)
	stands(t, j, at, start[1], item(api.ToRecv, 0, 1))
}

// P18.1: what isn't opened, and the order of errors.
func TestOpenWrong(t *testing.T) {
	refused := func(name string, d *disk.Disk, room int, start [2]api.Place, want api.Errno) {
		t.Helper()
		if j, err := journal.Open(d, room, start); err != want || j != nil {
			t.Errorf("%s: %d, not %d", name, err, want)
		}
	}
	d := fresh(t, 40)
	d.Arm(1)
	for _, room := range []int{0, 41, -1, math.MaxInt} {
		refused("room", d, room, start, api.ErrRange)
	}
	for _, index := range []int{-1, 65536} {
		refused("first place", d, 3, [2]api.Place{{Index: index}, {}}, api.ErrRange)
		refused("second place", d, 3, [2]api.Place{{}, {Index: index}}, api.ErrRange)
	}
	refused("too small", fresh(t, 3), 3, start, api.ErrRange)
	if d.Flush() != api.ErrIO {
		t.Error("the disk was called")
	}
	for n := 1; n <= 7; n++ {
		d := fresh(t, 40)
		d.Arm(n)
		refused("the disk fails", d, 3, start, api.ErrIO)
		stands(t, open(t, d, 3), start[0], start[1])
	}
	d = fresh(t, 40)
	h, _ := head.Put(64, head.Head{Gen: math.MaxUint64})
	must(t, d.Write(0, h))
	refused("no generation more", d, 3, start, api.ErrOver)
}

// P18.1: what stands in a log that isn't a journal's.
func TestOpenOfOtherRecords(t *testing.T) {
	inBytes := func(r api.Record) string {
		s, err := record.Bytes(r)
		must(t, err)
		return s
	}
	two := inBytes(api.Record{Kind: api.RecState, State: api.Daemon{Items: []api.Item{item(1, 0, 1), item(1, 0, 2)}}})
	scan := inBytes(api.Record{Kind: api.RecScan, Notes: []api.Note{note(1, 0, 3)}})
	for _, c := range []struct {
		name string
		room int
		l    []string
		want api.Errno
	}{
		{"no record", 5, []string{"x"}, api.ErrForm},
		{"empty", 5, []string{""}, api.ErrShort},
		{"a scan", 5, []string{scan}, api.ErrForm},
		{"too large", 1, []string{two}, api.ErrFull},
		{"too much", 2, []string{two, scan}, api.ErrFull},
		{"right", 3, []string{two, scan}, api.OK},
	} {
		d := fresh(t, 40)
		w, _, err := wal.Open(d)
		must(t, err)
		must(t, w.Checkpoint(c.l[0]))
		for _, s := range c.l[1:] {
			must(t, w.Append(s))
		}
		gen := w.Gen()
		j, err := journal.Open(d, c.room, start)
		if err != c.want || (j == nil) != (err != api.OK) {
			t.Errorf("%s: %d, not %d", c.name, err, c.want)
		}
		w, got, _ := wal.Open(d)
		if err != api.OK && (w.Gen() != gen || !slices.Equal(got, c.l)) {
			t.Errorf("%s: the log was changed", c.name)
		}
	}
}

// P18.1: the state must fit into a segment.
func TestOpenFull(t *testing.T) {
	d := fresh(t, 4)
	j := open(t, d, 3)
	if err := j.Scan(0, api.Place{Height: 6}, []api.Note{note(api.Sent, 0, 1)}); err != api.ErrFull {
		t.Errorf("%d", err)
	}
	if j.Halted() {
		t.Error("full is not halted")
	}
	stands(t, j, start[0], start[1])
	must(t, j.Scan(0, api.Place{Height: 6}, nil))
	stands(t, open(t, d, 3), api.Place{Height: 6}, start[1])

	d = fresh(t, 6)
	j = open(t, d, 40)
	long := api.Note{Kind: api.Sent, Packet: api.Packet{Seq: 1, Timeout: 1, Data: strings.Repeat("d", 64)}}
	if err := j.Scan(0, api.Place{Height: 6}, []api.Note{long}); err != api.ErrFull {
		t.Errorf("%d", err)
	}
	stands(t, j, start[0], start[1])
}

// P18.2: what isn't scanned, in which order; the state is as it was.
func TestScanRefused(t *testing.T) {
	d := fresh(t, 60)
	j := open(t, d, 2)
	at := api.Place{Height: 6}
	must(t, j.Scan(1, at, []api.Note{note(api.Sent, 1, 1), note(api.Sent, 1, 2)}))
	var many []api.Note
	for range 17 {
		many = append(many, note(api.Acked, 0, 1))
	}
	d.Arm(1)
	for _, c := range []struct {
		name  string
		chain int
		at    api.Place
		l     []api.Note
		want  api.Errno
	}{
		{"chain 2", 2, at, nil, api.ErrRange},
		{"chain -1", -1, at, nil, api.ErrRange},
		{"place", 0, api.Place{Index: 65536}, nil, api.ErrRange},
		{"place below", 0, api.Place{Index: -1}, nil, api.ErrRange},
		{"17 notes", 0, at, many, api.ErrRange},
		{"a note", 0, at, []api.Note{note(0, 0, 1)}, api.ErrRange},
		{"full", 0, at, []api.Note{note(api.Sent, 0, 1)}, api.ErrFull},
		{"full behind", 0, at, []api.Note{note(api.Acked, 1, 1), note(api.Sent, 0, 1), note(api.Sent, 0, 2)}, api.ErrFull},
	} {
		if err := j.Scan(c.chain, c.at, c.l); err != c.want {
			t.Errorf("%s: %d, not %d", c.name, err, c.want)
		}
		stands(t, j, start[0], at, item(1, 1, 1), item(1, 1, 2))
	}
	if d.Flush() != api.ErrIO || j.Halted() {
		t.Error("the disk was called")
	}
	must(t, j.Scan(0, at, many[:16]))
	stands(t, j, at, at, item(1, 1, 1), item(1, 1, 2))
}

// P18.2 and P18.3: halted, once the disk failed.
func TestHalted(t *testing.T) {
	for n := 1; n <= 3; n++ {
		d := fresh(t, 40)
		j := open(t, d, 2)
		d.Arm(n)
		if err := j.Scan(0, api.Place{Height: 6}, []api.Note{note(api.Sent, 0, 1)}); err != api.ErrIO || !j.Halted() {
			t.Errorf("call %d: %d", n, err)
		}
		stands(t, j, start[0], start[1])
		if err := j.Scan(0, api.Place{Height: 6}, nil); err != api.ErrHalt {
			t.Error(err)
		}
		if err := j.Scan(9, api.Place{Index: -1}, nil); err != api.ErrHalt {
			t.Error(err)
		}
		stands(t, j, start[0], start[1])
		if j.Gen() != 2 || j.Used() != 1 {
			t.Error(j.Gen(), j.Used())
		}
	}
}

// P18.2: what doesn't fit is checkpointed, as the state behind it.
func TestScanCheckpoints(t *testing.T) {
	d := fresh(t, 10)
	j := open(t, d, 2)
	gen, used := j.Gen(), j.Used()
	scanBytes := 1 + 1 + 16 + 1
	for i := range 40 {
		at := api.Place{Height: 6, Index: i}
		must(t, j.Scan(i%2, at, nil))
		if used+frame.Parts(64, scanBytes) <= 4 {
			used += frame.Parts(64, scanBytes)
		} else {
			gen, used = gen+1, 1
		}
		if j.Gen() != gen || j.Used() != used {
			t.Fatalf("scan %d: generation %d, used %d, not %d, %d", i, j.Gen(), j.Used(), gen, used)
		}
		_, records, err := wal.Open(d)
		must(t, err)
		if len(records) != used {
			t.Fatalf("scan %d: %d records", i, len(records))
		}
		last, err := record.Parse(records[len(records)-1])
		must(t, err)
		if want := api.RecScan; used > 1 && (last.Kind != want || last.Chain != i%2 || last.Place != at) {
			t.Fatalf("scan %d: %v", i, last)
		}
		if used == 1 && (last.Kind != api.RecState || last.State.Places[i%2] != at) {
			t.Fatalf("scan %d: %v", i, last)
		}
	}
	stands(t, j, api.Place{Height: 6, Index: 38}, api.Place{Height: 6, Index: 39})
}

// P18.3: what is told shares nothing with the journal.
func TestStateIsNew(t *testing.T) {
	d := fresh(t, 40)
	j := open(t, d, 4)
	l := []api.Note{note(api.Sent, 0, 1), note(api.Sent, 1, 1)}
	must(t, j.Scan(0, api.Place{Height: 6}, l))
	if l[0] != note(api.Sent, 0, 1) || l[1] != note(api.Sent, 1, 1) {
		t.Error("what was handed in is changed")
	}
	l[0] = api.Note{}
	s := j.State()
	s.Items[0] = api.Item{}
	_ = append(s.Items[:1], api.Item{})
	stands(t, j, api.Place{Height: 6}, start[1], item(1, 0, 1), item(1, 1, 1))
}

// scan is a call of a journal.
type scan struct {
	chain int
	at    api.Place
	l     []api.Note
}

func (c scan) do(j *journal.Journal) api.Errno { return j.Scan(c.chain, c.at, c.l) }

func (c scan) behind(t *testing.T, d api.Daemon) api.Daemon {
	t.Helper()
	next, err := record.Step(d, 6, api.Record{Kind: api.RecScan, Chain: c.chain, Place: c.at, Notes: c.l})
	must(t, err)
	return next
}

// crashes: each way in which so many writes may last, with none or one of them torn.
func crashes(writes int) [][]api.Write {
	var all [][]api.Write
	for mask := range 1 << writes {
		l := make([]api.Write, writes)
		for i := range l {
			l[i].Lasts = mask>>i&1 == 1
		}
		all = append(all, l)
		for i := range l {
			for _, torn := range []int{1, 12, 21, 30, 45, 60, 62, 63} {
				if l[i].Lasts {
					k := slices.Clone(l)
					k[i].Torn = torn
					all = append(all, k)
				}
			}
		}
	}
	return all
}

// lasts: the calls are made, the last one with a disk that is armed; then it crashes, and is opened anew.
func lasts(t *testing.T, calls []scan, armed int, writes []api.Write) (failed bool, buffered int) {
	t.Helper()
	d := fresh(t, 14)
	j := open(t, d, 6)
	was := j.State()
	for _, c := range calls[:len(calls)-1] {
		must(t, c.do(j))
		was = c.behind(t, was)
	}
	d.Arm(armed)
	now := calls[len(calls)-1].behind(t, was)
	err := calls[len(calls)-1].do(j)
	if err == api.OK {
		was = now
	}
	if got := j.State(); !same(got, was) {
		t.Fatalf("%v, not %v", got, was)
	}
	buffered = d.Buffered()
	d.Crash(writes...)
	got := open(t, d, 6).State()
	if !same(got, was) && !same(got, now) {
		t.Fatalf("%d calls, armed %d, %v: %v, not %v or %v", len(calls), armed, writes, got, was, now)
	}
	if again := open(t, d, 6).State(); !same(again, got) {
		t.Fatal("opened twice it isn't the same")
	}
	return err != api.OK, buffered
}

// P18.4: whatever a crash lets last.
func TestTheStateLasts(t *testing.T) {
	calls := []scan{
		{0, api.Place{Height: 6}, []api.Note{note(api.Sent, 0, 1), note(api.Sent, 0, 2)}},
		{1, api.Place{Height: 9}, nil},
		{1, api.Place{Height: 10}, []api.Note{note(api.Received, 0, 1)}},
		{0, api.Place{Height: 7, Index: 3}, []api.Note{note(api.Acked, 0, 1), note(api.Sent, 0, 3)}},
		{0, api.Place{Height: 8}, []api.Note{note(api.TimedOut, 0, 2)}},
	}
	for n := range calls {
		for armed := 1; ; armed++ {
			failed, buffered := lasts(t, calls[:n+1], armed, nil)
			if !failed {
				break
			}
			for _, l := range crashes(buffered) {
				lasts(t, calls[:n+1], armed, l)
			}
		}
	}
}

// P18.4: opening may fail and crash too; the state stays.
func TestOpenCrashes(t *testing.T) {
	for armed := 1; armed < 8; armed++ {
		for _, mask := range crashes(3) {
			d := fresh(t, 14)
			j := open(t, d, 6)
			at := api.Place{Height: 6}
			must(t, j.Scan(0, at, []api.Note{note(api.Sent, 0, 1)}))
			d.Arm(armed)
			journal.Open(d, 6, start)
			d.Crash(mask...)
			stands(t, open(t, d, 6), at, start[1], item(1, 0, 1))
		}
	}
}
