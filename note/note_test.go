package note_test

import (
	"math"
	"slices"
	"strings"
	"testing"

	"carrack/api"
	"carrack/note"
	"carrack/packet"
	"carrack/wire"
)

func pack(from int, seq uint64) api.Packet {
	return api.Packet{From: from, Seq: seq, Timeout: 9, Data: "data"}
}

func bytesOf(t *testing.T, p api.Packet) string {
	t.Helper()
	s, err := packet.Bytes(p)
	if err != api.OK {
		t.Fatal(err)
	}
	return s
}

func written(t *testing.T, put func(w *wire.Writer)) string {
	t.Helper()
	var w wire.Writer
	put(&w)
	s, err := w.Bytes()
	if err != api.OK {
		t.Fatalf("written: %d", err)
	}
	return s
}

func refused(t *testing.T, name string, put func(w *wire.Writer)) {
	t.Helper()
	var w wire.Writer
	w.Byte(1)
	put(&w)
	w.Byte(2)
	if s, err := w.Bytes(); err != api.ErrRange || s != "" {
		t.Errorf("%s: %d", name, err)
	}
}

var badPackets = []api.Packet{{}, {From: 2, Seq: 1, Timeout: 1}, {From: -1, Seq: 1, Timeout: 1}, {Seq: 0, Timeout: 1}, {Seq: 1}, {Seq: 1, Timeout: 1, Data: strings.Repeat("d", 65)}}

// P14.1: which notes may be, and by which chain they are noted.
func TestCheckAndBy(t *testing.T) {
	for kind := -1; kind < 7; kind++ {
		for from := range 2 {
			n := api.Note{Kind: kind, Packet: pack(from, 1)}
			err, by := api.OK, from
			switch {
			case kind < 1 || kind > 4:
				err, by = api.ErrRange, -1
			case kind == api.Received:
				by = 1 - from
			}
			if note.Check(n) != err || note.By(n) != by {
				t.Errorf("%v: %d, %d", n, note.Check(n), note.By(n))
			}
		}
		for _, p := range badPackets {
			n := api.Note{Kind: kind, Packet: p}
			if note.Check(n) != api.ErrRange || note.By(n) != -1 {
				t.Errorf("%v: %d, %d", n, note.Check(n), note.By(n))
			}
		}
	}
	for _, kind := range []int{math.MinInt, math.MaxInt, 257} {
		if note.Check(api.Note{Kind: kind, Packet: pack(0, 1)}) != api.ErrRange {
			t.Errorf("kind %d", kind)
		}
	}
}

// P14.2: bytes of lists and places.
func TestPut(t *testing.T) {
	a, b := pack(0, 1), pack(1, 7)
	s := written(t, func(w *wire.Writer) {
		note.PutNotes(w, []api.Note{{Kind: api.Received, Packet: a}, {Kind: api.TimedOut, Packet: b}})
	})
	if s != "\x02\x02"+bytesOf(t, a)+"\x04"+bytesOf(t, b) {
		t.Errorf("notes: %q", s)
	}
	s = written(t, func(w *wire.Writer) {
		note.PutItems(w, []api.Item{{Stage: api.ToAck, Packet: b}, {Stage: api.ToRecv, Packet: a}})
	})
	if s != "\x02\x02"+bytesOf(t, b)+"\x01"+bytesOf(t, a) {
		t.Errorf("items: %q", s)
	}
	s = written(t, func(w *wire.Writer) { note.PutPlace(w, api.Place{Height: 258, Index: 65535}) })
	if s != "\x00\x00\x00\x00\x00\x00\x01\x02\x00\x00\x00\x00\x00\x00\xff\xff" {
		t.Errorf("place: %q", s)
	}
	if s := written(t, func(w *wire.Writer) { note.PutPlace(w, api.Place{}) }); s != strings.Repeat("\x00", 16) {
		t.Errorf("zero place: %q", s)
	}
	for _, s := range []string{
		written(t, func(w *wire.Writer) { note.PutNotes(w, nil) }),
		written(t, func(w *wire.Writer) { note.PutItems(w, []api.Item{}) }),
	} {
		if s != "\x00" {
			t.Errorf("of none: %q", s)
		}
	}
}

// P14.2: what may not be put.
func TestPutWrong(t *testing.T) {
	good := api.Note{Kind: api.Sent, Packet: pack(0, 1)}
	item := api.Item{Stage: api.ToRecv, Packet: pack(0, 1)}
	for _, kind := range []int{-1, 0, 5, 255, 256, 257} {
		n := api.Note{Kind: kind, Packet: pack(0, 1)}
		refused(t, "kind", func(w *wire.Writer) { note.PutNotes(w, []api.Note{n}) })
		refused(t, "kind behind", func(w *wire.Writer) { note.PutNotes(w, []api.Note{good, n, good}) })
	}
	for _, stage := range []int{-1, 0, 3, 4, 255, 257} {
		i := api.Item{Stage: stage, Packet: pack(0, 1)}
		refused(t, "stage", func(w *wire.Writer) { note.PutItems(w, []api.Item{i}) })
		refused(t, "stage behind", func(w *wire.Writer) { note.PutItems(w, []api.Item{item, i}) })
	}
	for _, p := range badPackets {
		refused(t, "packet", func(w *wire.Writer) { note.PutNotes(w, []api.Note{{Kind: api.Sent, Packet: p}}) })
		refused(t, "packet", func(w *wire.Writer) { note.PutItems(w, []api.Item{{Stage: api.ToAck, Packet: p}}) })
	}
	for _, index := range []int{-1, 65536, math.MinInt, math.MaxInt} {
		refused(t, "index", func(w *wire.Writer) { note.PutPlace(w, api.Place{Index: index}) })
	}
	refused(t, "256 notes", func(w *wire.Writer) { note.PutNotes(w, slices.Repeat([]api.Note{good}, 256)) })
	refused(t, "256 items", func(w *wire.Writer) { note.PutItems(w, slices.Repeat([]api.Item{item}, 256)) })
}

// P14.2 and P14.3: what was put is told as it was.
func TestThereAndBack(t *testing.T) {
	for _, n := range []int{0, 1, 2, 40, 255} {
		var notes []api.Note
		var items []api.Item
		for i := range n {
			p := api.Packet{From: i % 2, Seq: math.MaxUint64 - uint64(i), Timeout: uint64(i) + 1, Data: strings.Repeat("d", i%65)}
			notes = append(notes, api.Note{Kind: 1 + i%4, Packet: p})
			items = append(items, api.Item{Stage: 1 + i%2, Packet: p})
		}
		at := api.Place{Height: math.MaxUint64 - uint64(n), Index: 65535 - n}
		s := written(t, func(w *wire.Writer) {
			note.PutNotes(w, notes)
			note.PutPlace(w, at)
			note.PutItems(w, items)
			w.Byte(77)
		})
		r := wire.NewReader(s)
		if got := note.Notes(r); !slices.Equal(got, notes) {
			t.Errorf("%d notes: %d", n, len(got))
		}
		if got := note.Place(r); got != at {
			t.Errorf("place %v: %v", at, got)
		}
		if got := note.Items(r); !slices.Equal(got, items) {
			t.Errorf("%d items: %d", n, len(got))
		}
		if r.Byte() != 77 || r.End() != api.OK {
			t.Error("something else is left")
		}
	}
}

// P14.2: which error is met first.
func TestTellWrong(t *testing.T) {
	good := bytesOf(t, pack(0, 1))
	bad := "\x02" + good[1:]
	for _, c := range []struct {
		name, s string
		want    api.Errno
	}{
		{"nothing", "", api.ErrShort},
		{"no packet", "\x01", api.ErrShort},
		{"half a packet", "\x01\x01" + good[:9], api.ErrShort},
		{"one of two", "\x02\x01" + good, api.ErrShort},
		{"kind 0", "\x01\x00" + good, api.ErrForm},
		{"kind 5", "\x01\x05" + good, api.ErrForm},
		{"kind 255", "\x01\xff" + good, api.ErrForm},
		{"packet", "\x01\x01" + bad, api.ErrForm},
		{"packet ahead of kind", "\x01\x05" + good[:9], api.ErrShort},
		{"kind alone", "\x01\x05", api.ErrShort},
		{"both", "\x01\x05" + bad, api.ErrForm},
		{"the first, then too little", "\x02\x05" + good, api.ErrForm},
		{"the first, then too little", "\x02\x01" + bad + "\x01", api.ErrForm},
		{"the second", "\x02\x01" + good + "\x01" + bad, api.ErrForm},
		{"the second is cut", "\x02\x01" + good + "\x05" + good[:20], api.ErrShort},
	} {
		r := wire.NewReader(c.s)
		if l := note.Notes(r); len(l) != 0 || r.Err() != c.want {
			t.Errorf("notes, %s: %d, %d", c.name, len(l), r.Err())
		}
		r = wire.NewReader(c.s)
		if l := note.Items(r); len(l) != 0 || r.Err() != c.want {
			t.Errorf("items, %s: %d, %d", c.name, len(l), r.Err())
		}
	}
	r := wire.NewReader("\x01\x03" + good)
	if l := note.Items(r); len(l) != 0 || r.Err() != api.ErrForm {
		t.Errorf("stage 3: %d", r.Err())
	}
}

// P14.2: places that aren't told.
func TestPlaceWrong(t *testing.T) {
	high := "\x00\x00\x00\x00\x00\x00\x01\x02"
	for _, c := range []struct {
		s    string
		want api.Errno
	}{
		{"", api.ErrShort}, {high, api.ErrShort}, {high + high[:7], api.ErrShort}, {high[:7], api.ErrShort},
		{high + "\x00\x00\x00\x00\x00\x01\x00\x00", api.ErrForm}, {high + "\xff\xff\xff\xff\xff\xff\xff\xff", api.ErrForm},
		{high + "\x80\x00\x00\x00\x00\x00\x00\x00", api.ErrForm}, {high + "\x00\x00\x00\x01\x00\x00\x00\x00", api.ErrForm},
	} {
		r := wire.NewReader(c.s)
		if at := note.Place(r); at != (api.Place{}) || r.Err() != c.want {
			t.Errorf("%q: %v, %d", c.s, at, r.Err())
		}
	}
}

// P14.2: an error that is remembered already stays.
func TestTellBehindAnError(t *testing.T) {
	s := written(t, func(w *wire.Writer) {
		note.PutNotes(w, []api.Note{{Kind: 1, Packet: pack(0, 1)}})
	})
	r := wire.NewReader(s)
	r.Fail(api.ErrSum)
	if len(note.Notes(r)) != 0 || len(note.Items(r)) != 0 || note.Place(r) != (api.Place{}) || r.Err() != api.ErrSum {
		t.Error("something is told")
	}
}
