package scan_test

import (
	"math"
	"slices"
	"testing"

	"carrack/api"
	"carrack/scan"
	"carrack/table"
)

// blocks is a log of its own: the notes of the heights from 5 on. It tells places as a chain does.
type blocks [][]api.Note

func (b blocks) Log(at api.Place, most int) ([]api.Note, api.Place) {
	last := 5 + uint64(len(b)) - 1
	if at.Height < 5 || at.Height > last {
		return nil, at
	}
	var l []api.Note
	for {
		block := b[at.Height-5]
		at.Index = min(max(at.Index, 0), len(block))
		switch {
		case at.Index < len(block) && len(l) < most:
			l = append(l, block[at.Index])
			at.Index++
		case at.Index == len(block) && at.Height < last:
			at = api.Place{Height: at.Height + 1}
		default:
			return l, at
		}
	}
}

func note(kind, from int, seq uint64) api.Note {
	return api.Note{Kind: kind, Packet: api.Packet{From: from, Seq: seq, Timeout: 9}}
}

func item(stage, from int, seq uint64) api.Item {
	return api.Item{Stage: stage, Packet: note(0, from, seq).Packet}
}

func fresh(t *testing.T, room int, l ...api.Item) *table.Table {
	t.Helper()
	b, err := table.Of(room, l)
	if err != api.OK {
		t.Fatal(err)
	}
	return b
}

func sent(seqs ...uint64) []api.Note {
	var l []api.Note
	for _, s := range seqs {
		l = append(l, note(api.Sent, 0, s))
	}
	return l
}

// The document's example: two packets, room for one.
func TestExample(t *testing.T) {
	log := blocks{nil, sent(1, 2)}
	b := fresh(t, 1)
	l, at := scan.Next(log, api.Place{Height: 5}, 16, b)
	if !slices.Equal(l, sent(1)) || at != (api.Place{Height: 6, Index: 1}) || b.Len() != 0 {
		t.Error(l, at, b.Len())
	}
}

// P16.1: what is taken, and the place behind it.
func TestNext(t *testing.T) {
	acked := note(api.Acked, 0, 1)
	log := blocks{sent(1, 2), nil, {acked, note(api.Sent, 0, 3), note(api.Sent, 0, 4)}, nil}
	all := append(append(sent(1, 2), acked), sent(3, 4)...)
	for _, c := range []struct {
		room   int
		height uint64
		index  int
		most   int
		from   int
		to     int
		at     api.Place
	}{
		{9, 5, 0, 9, 0, 5, api.Place{Height: 8}},
		{9, 5, 0, 5, 0, 5, api.Place{Height: 8}},
		{9, 5, 0, 4, 0, 4, api.Place{Height: 7, Index: 2}},
		{9, 5, 0, 2, 0, 2, api.Place{Height: 7}},
		{9, 5, 0, 1, 0, 1, api.Place{Height: 5, Index: 1}},
		{9, 5, 0, 0, 0, 0, api.Place{Height: 5}},
		{9, 5, 0, -1, 0, 0, api.Place{Height: 5}},
		{9, 5, 0, math.MinInt, 0, 0, api.Place{Height: 5}},
		{9, 5, 2, 0, 2, 2, api.Place{Height: 7}},
		{9, 6, 0, math.MaxInt, 2, 5, api.Place{Height: 8}},
		{1, 5, 0, 9, 0, 1, api.Place{Height: 5, Index: 1}},
		{2, 5, 0, 9, 0, 4, api.Place{Height: 7, Index: 2}},
		{3, 5, 0, 9, 0, 5, api.Place{Height: 8}},
		{2, 5, 0, 3, 0, 3, api.Place{Height: 7, Index: 1}},
		{9, 8, 0, 9, 5, 5, api.Place{Height: 8}},
		{9, 9, 3, 9, 0, 0, api.Place{Height: 9, Index: 3}},
		{9, 4, 0, 9, 0, 0, api.Place{Height: 4}},
	} {
		b := fresh(t, c.room)
		l, at := scan.Next(log, api.Place{Height: c.height, Index: c.index}, c.most, b)
		if !slices.Equal(l, all[c.from:c.to]) || at != c.at || b.Len() != 0 {
			t.Errorf("%v: %v, %v", c, l, at)
		}
	}
	b := fresh(t, 1, item(api.ToRecv, 1, 1))
	l, at := scan.Next(log, api.Place{Height: 5}, 9, b)
	if len(l) != 0 || at != (api.Place{Height: 5}) || !slices.Equal(b.Items(), []api.Item{item(api.ToRecv, 1, 1)}) {
		t.Error("a full table takes something", l, at)
	}
}

// P16.1: a note that may not be ends what is taken.
func TestNextOfWrongNotes(t *testing.T) {
	log := blocks{{note(api.Sent, 0, 1), note(7, 0, 2), note(api.Sent, 0, 3)}}
	l, at := scan.Next(log, api.Place{Height: 5}, 9, fresh(t, 9))
	if !slices.Equal(l, sent(1)) || at != (api.Place{Height: 5, Index: 1}) {
		t.Error(l, at)
	}
}

// kept is a log that hands out what it keeps.
type kept []api.Note

func (k kept) Log(at api.Place, most int) ([]api.Note, api.Place) {
	from := min(max(at.Index, 0), len(k))
	to := min(from+most, len(k))
	return k[from:to], api.Place{Height: at.Height, Index: to}
}

// What is taken is new memory.
func TestNextIsNew(t *testing.T) {
	log := kept(sent(1, 2, 3))
	l, at := scan.Next(log, api.Place{}, 2, fresh(t, 9))
	if !slices.Equal(l, sent(1, 2)) || at != (api.Place{Index: 2}) {
		t.Fatal(l, at)
	}
	l[0] = api.Note{}
	_ = append(l, api.Note{})
	if !slices.Equal(log, sent(1, 2, 3)) {
		t.Error("the log was changed by an answer")
	}
}

// P16.1: notes are applied to the first that can't be.
func TestApply(t *testing.T) {
	for _, c := range []struct {
		name  string
		l     []api.Note
		n     int
		err   api.Errno
		items []api.Item
	}{
		{"none", nil, 0, api.OK, nil},
		{"all", append(sent(1, 2), note(api.Received, 0, 1)), 3, api.OK, []api.Item{item(api.ToAck, 0, 1), item(api.ToRecv, 0, 2)}},
		{"full", append(sent(1, 2, 3), note(api.Acked, 0, 1)), 2, api.ErrFull, []api.Item{item(api.ToRecv, 0, 1), item(api.ToRecv, 0, 2)}},
		{"wrong", append(append(sent(1), note(0, 0, 2)), sent(2)...), 1, api.ErrRange, []api.Item{item(api.ToRecv, 0, 1)}},
		{"the first is wrong", append([]api.Note{note(0, 0, 2)}, sent(2)...), 0, api.ErrRange, nil},
	} {
		b := fresh(t, 2)
		n, err := scan.Apply(b, c.l)
		if n != c.n || err != c.err || !slices.Equal(b.Items(), c.items) {
			t.Errorf("%s: %d, %d, %v", c.name, n, err, b.Items())
		}
	}
}

// P16.2: a log as far as it goes.
func TestAll(t *testing.T) {
	acked := note(api.Acked, 0, 1)
	log := blocks{sent(1, 2), nil, {acked, note(api.Sent, 0, 3), note(api.Sent, 0, 4)}, nil}
	for _, c := range []struct {
		room  int
		at    api.Place
		n     int
		to    api.Place
		items []api.Item
	}{
		{9, api.Place{Height: 5}, 5, api.Place{Height: 8}, []api.Item{item(1, 0, 2), item(1, 0, 3), item(1, 0, 4)}},
		{3, api.Place{Height: 5}, 5, api.Place{Height: 8}, []api.Item{item(1, 0, 2), item(1, 0, 3), item(1, 0, 4)}},
		{2, api.Place{Height: 5}, 4, api.Place{Height: 7, Index: 2}, []api.Item{item(1, 0, 2), item(1, 0, 3)}},
		{1, api.Place{Height: 5}, 1, api.Place{Height: 5, Index: 1}, []api.Item{item(1, 0, 1)}},
		{9, api.Place{Height: 7, Index: 1}, 2, api.Place{Height: 8}, []api.Item{item(1, 0, 3), item(1, 0, 4)}},
		{9, api.Place{Height: 8}, 0, api.Place{Height: 8}, nil},
		{9, api.Place{Height: 7, Index: 3}, 0, api.Place{Height: 8}, nil},
		{9, api.Place{Height: 99, Index: 2}, 0, api.Place{Height: 99, Index: 2}, nil},
		{9, api.Place{Height: 0}, 0, api.Place{Height: 0}, nil},
	} {
		b := fresh(t, c.room)
		n, at := scan.All(log, c.at, b)
		if n != c.n || at != c.to || !slices.Equal(b.Items(), c.items) {
			t.Errorf("room %d from %v: %d, %v, %v", c.room, c.at, n, at, b.Items())
		}
	}
}

// P16.3: whatever is taken at a time, nothing is passed over.
func TestNothingIsPassedOver(t *testing.T) {
	log := blocks{nil}
	var want []api.Note
	seq := uint64(0)
	for i := range 40 {
		var block []api.Note
		for range i * 7 % 5 {
			seq++
			block = append(block, note(api.Sent, 0, seq), note(api.Received, 1, seq))
			if seq > 1 {
				block = append(block, note(api.Acked, 0, seq-1), note(api.TimedOut, 1, seq-1))
			}
		}
		log = append(log, block)
		want = append(want, block...)
	}
	for most := 1; most < 9; most++ {
		for room := 4; room < 7; room++ {
			b := fresh(t, room)
			var got []api.Note
			at := api.Place{Height: 5}
			for {
				l, next := scan.Next(log, at, most, b)
				if len(l) == 0 {
					at = next
					break
				}
				if n, err := scan.Apply(b, l); n != len(l) || err != api.OK {
					t.Fatal("what is taken can't be applied")
				}
				got, at = append(got, l...), next
			}
			if !slices.Equal(got, want) || at != (api.Place{Height: 45, Index: len(log[40])}) {
				t.Errorf("%d at a time, room %d: %d notes, %v", most, room, len(got), at)
			}
		}
	}
}
