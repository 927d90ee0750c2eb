package table_test

import (
	"math"
	"slices"
	"strings"
	"testing"

	"carrack/api"
	"carrack/table"
)

func pack(from int, seq uint64) api.Packet {
	return api.Packet{From: from, Seq: seq, Timeout: 9, Data: "data"}
}

func item(stage, from int, seq uint64) api.Item {
	return api.Item{Stage: stage, Packet: pack(from, seq)}
}

func note(kind, from int, seq uint64) api.Note {
	return api.Note{Kind: kind, Packet: pack(from, seq)}
}

func of(t *testing.T, room int, l ...api.Item) *table.Table {
	t.Helper()
	b, err := table.Of(room, l)
	if err != api.OK || b == nil {
		t.Fatalf("of: %d", err)
	}
	return b
}

func apply(t *testing.T, b *table.Table, n api.Note, want api.Errno) {
	t.Helper()
	if err := b.Apply(n); err != want {
		t.Fatalf("%v: %d, not %d", n, err, want)
	}
}

func has(t *testing.T, b *table.Table, want ...api.Item) {
	t.Helper()
	if got := b.Items(); !slices.Equal(got, want) || b.Len() != len(want) {
		t.Fatalf("%v, %d, not %v", got, b.Len(), want)
	}
}

var bad = []api.Packet{{}, {From: 2, Seq: 1, Timeout: 1}, {From: -1, Seq: 1, Timeout: 1}, {Seq: 0, Timeout: 1}, {Seq: 1}, {Seq: 1, Timeout: 1, Data: strings.Repeat("d", 65)}}

// P15.1: rooms.
func TestNew(t *testing.T) {
	for _, room := range []int{0, -1, 41, math.MaxInt, math.MinInt} {
		if b, err := table.New(room); err != api.ErrRange || b != nil {
			t.Errorf("new %d: %d", room, err)
		}
		if b, err := table.Of(room, nil); err != api.ErrRange || b != nil {
			t.Errorf("of %d: %d", room, err)
		}
		if b, err := table.Of(room, []api.Item{item(1, 0, 1), item(1, 0, 1)}); err != api.ErrRange || b != nil {
			t.Errorf("of %d: %d", room, err)
		}
	}
	for _, room := range []int{1, 2, 40} {
		b, err := table.New(room)
		if err != api.OK || b.Room() != room {
			t.Fatalf("new %d: %d", room, err)
		}
		has(t, b)
		has(t, of(t, room))
	}
}

// P15.1: tables of items, in whatever order; and what isn't one.
func TestOf(t *testing.T) {
	l := []api.Item{item(2, 1, 1), item(1, 0, 7), item(1, 1, math.MaxUint64), item(2, 0, 3)}
	has(t, of(t, 4, l...), item(2, 0, 3), item(1, 0, 7), item(2, 1, 1), item(1, 1, math.MaxUint64))
	if l[0] != item(2, 1, 1) || l[3] != item(2, 0, 3) {
		t.Error("what was handed in is changed")
	}
	twice := []api.Item{item(1, 0, 1), item(1, 0, 2), item(2, 0, 1)}
	for _, c := range []struct {
		name string
		room int
		l    []api.Item
		want api.Errno
	}{
		{"full", 3, l, api.ErrFull},
		{"twice", 5, twice, api.ErrTwice},
		{"twice ahead of full", 1, twice, api.ErrTwice},
		{"twice behind what is full", 1, []api.Item{item(1, 0, 1), item(1, 0, 2), item(1, 0, 3), item(1, 0, 3)}, api.ErrTwice},
		{"stage 0", 5, []api.Item{item(0, 0, 1)}, api.ErrRange},
		{"stage 3", 5, []api.Item{item(3, 0, 1)}, api.ErrRange},
		{"stage -1", 5, []api.Item{item(-1, 0, 1)}, api.ErrRange},
		{"range ahead of twice", 5, append(slices.Clone(twice), item(3, 0, 9)), api.ErrRange},
		{"range ahead of full", 1, append(slices.Clone(l), item(0, 0, 9)), api.ErrRange},
	} {
		if b, err := table.Of(c.room, c.l); err != c.want || b != nil {
			t.Errorf("%s: %d", c.name, err)
		}
	}
	for _, p := range bad {
		if b, err := table.Of(5, []api.Item{item(1, 0, 1), {Stage: 1, Packet: p}}); err != api.ErrRange || b != nil {
			t.Errorf("%v: %d", p, err)
		}
	}
	other := item(1, 0, 1)
	other.Packet.Data = "other"
	if _, err := table.Of(5, []api.Item{item(1, 0, 1), other}); err != api.ErrTwice {
		t.Errorf("of one From and Seq: %d", err)
	}
}

// P15.1: how notes are applied.
func TestApply(t *testing.T) {
	b := of(t, 40)
	apply(t, b, note(api.Acked, 0, 1), api.OK)
	apply(t, b, note(api.TimedOut, 0, 1), api.OK)
	has(t, b)
	apply(t, b, note(api.Sent, 0, 1), api.OK)
	has(t, b, item(api.ToRecv, 0, 1))
	apply(t, b, note(api.Sent, 0, 1), api.OK)
	has(t, b, item(api.ToRecv, 0, 1))
	apply(t, b, note(api.Received, 0, 1), api.OK)
	has(t, b, item(api.ToAck, 0, 1))
	apply(t, b, note(api.Sent, 0, 1), api.OK)
	apply(t, b, note(api.Received, 0, 1), api.OK)
	has(t, b, item(api.ToAck, 0, 1))
	apply(t, b, note(api.Received, 1, 1), api.OK)
	has(t, b, item(api.ToAck, 0, 1), item(api.ToAck, 1, 1))
	apply(t, b, note(api.Acked, 0, 1), api.OK)
	has(t, b, item(api.ToAck, 1, 1))
	apply(t, b, note(api.Sent, 1, 2), api.OK)
	apply(t, b, note(api.TimedOut, 1, 1), api.OK)
	has(t, b, item(api.ToRecv, 1, 2))
	apply(t, b, note(api.TimedOut, 0, 2), api.OK)
	has(t, b, item(api.ToRecv, 1, 2))
}

// P15.1: an item is known by its From and Seq; its packet stays.
func TestApplyOfAnotherPacket(t *testing.T) {
	other := pack(0, 1)
	other.Data, other.Timeout = "other", 77
	b := of(t, 2, item(api.ToRecv, 0, 1))
	apply(t, b, api.Note{Kind: api.Sent, Packet: other}, api.OK)
	has(t, b, item(api.ToRecv, 0, 1))
	apply(t, b, api.Note{Kind: api.Received, Packet: other}, api.OK)
	has(t, b, item(api.ToAck, 0, 1))
	apply(t, b, api.Note{Kind: api.Acked, Packet: other}, api.OK)
	has(t, b)
}

// P15.1: what isn't applied changes nothing.
func TestApplyRefused(t *testing.T) {
	for _, kind := range []int{0, 5, -1, math.MaxInt, math.MinInt} {
		b := of(t, 1)
		apply(t, b, note(kind, 0, 1), api.ErrRange)
		has(t, b)
		b = of(t, 1, item(1, 0, 1))
		apply(t, b, note(kind, 0, 2), api.ErrRange)
		has(t, b, item(1, 0, 1))
	}
	for _, p := range bad {
		for kind := 1; kind < 5; kind++ {
			b := of(t, 1, item(1, 0, 1))
			apply(t, b, api.Note{Kind: kind, Packet: p}, api.ErrRange)
			has(t, b, item(1, 0, 1))
		}
	}
}

// P15.1 and P15.3: room, with the document's example.
func TestFull(t *testing.T) {
	b := of(t, 1)
	apply(t, b, note(api.Sent, 0, 1), api.OK)
	apply(t, b, note(api.Sent, 0, 2), api.ErrFull)
	apply(t, b, note(api.Received, 0, 2), api.ErrFull)
	apply(t, b, note(api.Sent, 1, 1), api.ErrFull)
	apply(t, b, note(api.Sent, 0, 1), api.OK)
	apply(t, b, note(api.Acked, 0, 2), api.OK)
	has(t, b, item(api.ToRecv, 0, 1))
	apply(t, b, note(api.Received, 0, 1), api.OK)
	apply(t, b, note(api.Acked, 0, 1), api.OK)
	apply(t, b, note(api.Sent, 0, 2), api.OK)
	has(t, b, item(api.ToRecv, 0, 2))
	b = of(t, 40)
	for i := range uint64(40) {
		apply(t, b, note(api.Sent, int(i%2), i+1), api.OK)
	}
	apply(t, b, note(api.Sent, 0, 50), api.ErrFull)
	if b.Len() != 40 || b.Room() != 40 {
		t.Error(b.Len(), b.Room())
	}
}

// P15.2: how many could be applied; nothing changes.
func TestFit(t *testing.T) {
	b := of(t, 2, item(api.ToRecv, 0, 1))
	for _, c := range []struct {
		name string
		l    []api.Note
		want int
	}{
		{"none", nil, 0},
		{"all", []api.Note{note(api.Sent, 0, 2), note(api.Sent, 0, 2), note(api.Received, 0, 1)}, 3},
		{"full", []api.Note{note(api.Sent, 0, 2), note(api.Sent, 0, 3), note(api.Acked, 0, 1)}, 1},
		{"room is made", []api.Note{note(api.Sent, 0, 2), note(api.Acked, 0, 1), note(api.Received, 1, 3), note(api.Sent, 1, 4)}, 3},
		{"one may not be", []api.Note{note(api.Acked, 0, 1), note(0, 0, 2), note(api.Sent, 0, 2)}, 1},
		{"the first may not be", []api.Note{note(9, 0, 2), note(api.Sent, 0, 2)}, 0},
	} {
		if got := b.Fit(c.l); got != c.want {
			t.Errorf("%s: %d", c.name, got)
		}
		has(t, b, item(api.ToRecv, 0, 1))
	}
}

// P15.2: one item.
func TestGetAndDrop(t *testing.T) {
	b := of(t, 5, item(1, 0, 1), item(2, 1, 1), item(1, 1, 2))
	for _, c := range []struct {
		from int
		seq  uint64
	}{{0, 2}, {2, 1}, {-1, 1}, {0, 0}, {math.MaxInt, math.MaxUint64}} {
		if i, ok := b.Get(c.from, c.seq); ok || i != (api.Item{}) {
			t.Errorf("%v: %v", c, i)
		}
		if err := b.Drop(c.from, c.seq); err != api.ErrNone {
			t.Errorf("%v: %d", c, err)
		}
	}
	if i, ok := b.Get(1, 1); !ok || i != item(2, 1, 1) {
		t.Error(i, ok)
	}
	if err := b.Drop(1, 1); err != api.OK {
		t.Error(err)
	}
	if i, ok := b.Get(1, 1); ok || i != (api.Item{}) {
		t.Error("it is there still")
	}
	if err := b.Drop(1, 1); err != api.ErrNone {
		t.Error(err)
	}
	has(t, b, item(1, 0, 1), item(1, 1, 2))
}

// P15.2: items are told in order, whatever order they came in; answers are new.
func TestItems(t *testing.T) {
	for seed := range uint64(20) {
		b := of(t, 40)
		var want []api.Item
		for i := range uint64(36) {
			k := (i*7 + seed) % 36
			apply(t, b, note(api.Sent, int(k%2), (k+1)<<(k%60)), api.OK)
			want = append(want, item(api.ToRecv, int(k%2), (k+1)<<(k%60)))
		}
		slices.SortFunc(want, func(a, b api.Item) int {
			if a.Packet.From != b.Packet.From {
				return a.Packet.From - b.Packet.From
			}
			if a.Packet.Seq < b.Packet.Seq {
				return -1
			}
			return 1
		})
		has(t, b, want...)
		l := b.Items()
		l[0] = api.Item{}
		has(t, b, want...)
	}
}

// P15.2: copies stand alike, and apart.
func TestCopy(t *testing.T) {
	b := of(t, 3, item(1, 0, 1), item(2, 1, 1))
	c := b.Copy()
	has(t, c, item(1, 0, 1), item(2, 1, 1))
	if c.Room() != 3 {
		t.Error(c.Room())
	}
	apply(t, c, note(api.Received, 0, 1), api.OK)
	apply(t, c, note(api.Sent, 0, 2), api.OK)
	apply(t, c, note(api.Sent, 0, 3), api.ErrFull)
	has(t, b, item(1, 0, 1), item(2, 1, 1))
	apply(t, b, note(api.Acked, 0, 1), api.OK)
	has(t, c, item(2, 0, 1), item(1, 0, 2), item(2, 1, 1))
}
