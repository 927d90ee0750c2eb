package record_test

import (
	"math"
	"reflect"
	"slices"
	"strings"
	"testing"

	"carrack/api"
	"carrack/packet"
	"carrack/record"
)

func pack(from int, seq uint64) api.Packet {
	return api.Packet{From: from, Seq: seq, Timeout: 9, Data: "data"}
}

func item(stage, from int, seq uint64) api.Item {
	return api.Item{Stage: stage, Packet: pack(from, seq)}
}

func note(kind, from int, seq uint64) api.Note {
	return api.Note{Kind: kind, Packet: pack(from, seq)}
}

// items: so many, in their order.
func items(n int) []api.Item {
	var l []api.Item
	for i := range n {
		l = append(l, item(1+i%2, 0, uint64(i)+1))
	}
	return l
}

func notes(n int) []api.Note {
	var l []api.Note
	for i := range n {
		l = append(l, note(api.Sent, 1, uint64(i)+1))
	}
	return l
}

func number(n uint64) string {
	var b []byte
	for shift := 56; shift >= 0; shift -= 8 {
		b = append(b, byte(n>>shift))
	}
	return string(b)
}

func inBytes(p api.Packet) string {
	s, _ := packet.Bytes(p)
	return s
}

func bytesOf(t *testing.T, r api.Record) string {
	t.Helper()
	s, err := record.Bytes(r)
	if err != api.OK {
		t.Fatalf("bytes of %v: %d", r, err)
	}
	return s
}

// same: nil and empty lists mean the same.
func same(a, b api.Daemon) bool {
	return a.Places == b.Places && slices.Equal(a.Items, b.Items)
}

func sameRecord(a, b api.Record) bool {
	return a.Kind == b.Kind && same(a.State, b.State) && a.Chain == b.Chain && a.Place == b.Place && slices.Equal(a.Notes, b.Notes)
}

var (
	places = [2]api.Place{{Height: 5, Index: 1}, {Height: math.MaxUint64, Index: 65535}}
	state  = api.Record{Kind: api.RecState, State: api.Daemon{Places: places, Items: []api.Item{item(2, 0, 1), item(1, 1, 1)}}}
	scan   = api.Record{Kind: api.RecScan, Chain: 1, Place: api.Place{Height: 258, Index: 3}, Notes: []api.Note{note(api.Sent, 1, 2), note(api.Received, 0, 1)}}
)

// P17.1: records' bytes, and what they tell.
func TestBytesAndParse(t *testing.T) {
	want := "\x01" + number(5) + number(1) + number(math.MaxUint64) + number(65535) + "\x02\x02" + inBytes(pack(0, 1)) + "\x01" + inBytes(pack(1, 1))
	if got := bytesOf(t, state); got != want {
		t.Errorf("%q", got)
	}
	want = "\x02\x01" + number(258) + number(3) + "\x02\x01" + inBytes(pack(1, 2)) + "\x02" + inBytes(pack(0, 1))
	if got := bytesOf(t, scan); got != want {
		t.Errorf("%q", got)
	}
	for _, r := range []api.Record{
		state, scan, {Kind: api.RecState}, {Kind: api.RecScan}, {Kind: api.RecScan, Notes: notes(16)}, {Kind: api.RecScan, Notes: []api.Note{}},
		{Kind: api.RecState, State: api.Daemon{Items: items(40)}, Notes: []api.Note{}},
		{Kind: api.RecState, State: api.Daemon{Items: []api.Item{item(1, 1, 1), item(1, 0, 1), item(1, 0, 1)}}},
	} {
		got, err := record.Parse(bytesOf(t, r))
		if err != api.OK || !sameRecord(got, r) {
			t.Errorf("%v: %v, %d", r, got, err)
		}
	}
}

// P17.1: what has no bytes.
func TestBytesWrong(t *testing.T) {
	long := pack(0, 1)
	long.Data = strings.Repeat("d", 65)
	with := func(r api.Record, change func(*api.Record)) api.Record {
		change(&r)
		return r
	}
	for name, r := range map[string]api.Record{
		"kind 0":             {},
		"kind 3":             {Kind: 3},
		"kind -1":            {Kind: -1},
		"kind 257":           {Kind: 257},
		"state with chain":   with(state, func(r *api.Record) { r.Chain = 1 }),
		"state with height":  with(state, func(r *api.Record) { r.Place.Height = 1 }),
		"state with index":   with(state, func(r *api.Record) { r.Place.Index = 1 }),
		"state with notes":   with(state, func(r *api.Record) { r.Notes = notes(1) }),
		"first place":        with(state, func(r *api.Record) { r.State.Places[0].Index = 65536 }),
		"second place":       with(state, func(r *api.Record) { r.State.Places[1].Index = -1 }),
		"41 items":           with(state, func(r *api.Record) { r.State.Items = items(41) }),
		"stage":              with(state, func(r *api.Record) { r.State.Items = []api.Item{item(3, 0, 1)} }),
		"item's packet":      with(state, func(r *api.Record) { r.State.Items = []api.Item{{Stage: 1, Packet: long}} }),
		"scan with height":   with(scan, func(r *api.Record) { r.State.Places[0].Height = 1 }),
		"scan with index":    with(scan, func(r *api.Record) { r.State.Places[1].Index = 1 }),
		"scan with items":    with(scan, func(r *api.Record) { r.State.Items = items(1) }),
		"chain 2":            with(scan, func(r *api.Record) { r.Chain = 2 }),
		"chain -1":           with(scan, func(r *api.Record) { r.Chain = -1 }),
		"place":              with(scan, func(r *api.Record) { r.Place.Index = 65536 }),
		"place below":        with(scan, func(r *api.Record) { r.Place.Index = -1 }),
		"17 notes":           with(scan, func(r *api.Record) { r.Notes = notes(17) }),
		"note":               with(scan, func(r *api.Record) { r.Notes = []api.Note{note(5, 0, 1)} }),
		"note's packet":      with(scan, func(r *api.Record) { r.Notes = []api.Note{{Kind: 1, Packet: long}} }),
		"note's zero packet": with(scan, func(r *api.Record) { r.Notes = []api.Note{{Kind: 1}} }),
	} {
		if s, err := record.Bytes(r); err != api.ErrRange || s != "" {
			t.Errorf("%s: %d", name, err)
		}
	}
}

// P17.1: what is no record's bytes; the first from the left.
func TestParseWrong(t *testing.T) {
	good := inBytes(pack(0, 1))
	badPlace := number(1) + number(65536)
	goodPlace := number(1) + number(2)
	many := func(n int) string { return string([]byte{byte(n)}) + strings.Repeat("\x01"+good, n) }
	for _, c := range []struct {
		name, s string
		want    api.Errno
	}{
		{"nothing", "", api.ErrShort},
		{"kind 0", "\x00", api.ErrForm},
		{"kind 3", "\x03" + bytesOf(t, scan)[1:], api.ErrForm},
		{"kind 255", "\xff", api.ErrForm},
		{"kind alone", "\x01", api.ErrShort},
		{"kind alone", "\x02", api.ErrShort},
		{"more", bytesOf(t, state) + "x", api.ErrMore},
		{"more", bytesOf(t, scan) + "\x00", api.ErrMore},
		{"first place", "\x01" + badPlace, api.ErrForm},
		{"second place", "\x01" + goodPlace + badPlace, api.ErrForm},
		{"second place is cut", "\x01" + goodPlace + badPlace[:15], api.ErrShort},
		{"no items", "\x01" + goodPlace + goodPlace, api.ErrShort},
		{"stage", "\x01" + goodPlace + goodPlace + "\x01\x03" + good, api.ErrForm},
		{"41 items", "\x01" + goodPlace + goodPlace + many(41), api.ErrForm},
		{"41 items are cut", "\x01" + goodPlace + goodPlace + many(41)[:900], api.ErrShort},
		{"41 items and more", "\x01" + goodPlace + goodPlace + many(41) + "x", api.ErrForm},
		{"40 items and more", "\x01" + goodPlace + goodPlace + many(40) + "x", api.ErrMore},
		{"chain 2", "\x02\x02" + goodPlace + "\x00", api.ErrForm},
		{"chain 255 and more", "\x02\xff" + goodPlace + "\x00x", api.ErrForm},
		{"chain 2 and cut", "\x02\x02" + goodPlace, api.ErrShort},
		{"chain 2 and cut", "\x02\x02" + goodPlace + "\x01\x01" + good[:5], api.ErrShort},
		{"place", "\x02\x00" + badPlace, api.ErrForm},
		{"note", "\x02\x00" + goodPlace + "\x01\x05" + good, api.ErrForm},
		{"17 notes", "\x02\x00" + goodPlace + many(17), api.ErrForm},
		{"17 notes are cut", "\x02\x00" + goodPlace + many(17)[:200], api.ErrShort},
		{"16 notes and more", "\x02\x00" + goodPlace + many(16) + "x", api.ErrMore},
	} {
		if r, err := record.Parse(c.s); err != c.want || !reflect.DeepEqual(r, api.Record{}) {
			t.Errorf("%s: %d, not %d", c.name, err, c.want)
		}
	}
	for _, r := range []api.Record{state, scan} {
		s := bytesOf(t, r)
		for i := range len(s) {
			if r, err := record.Parse(s[:i]); err != api.ErrShort || !reflect.DeepEqual(r, api.Record{}) {
				t.Fatalf("cut at %d: %d", i, err)
			}
		}
	}
}

// P17.2: which states may be.
func TestCheck(t *testing.T) {
	of := func(l ...api.Item) api.Daemon { return api.Daemon{Places: places, Items: l} }
	bad := func(d api.Daemon, k, index int) api.Daemon {
		d.Places[k].Index = index
		return d
	}
	twice := of(item(1, 0, 1), item(2, 0, 1))
	for _, c := range []struct {
		name string
		d    api.Daemon
		room int
		want api.Errno
	}{
		{"zero", api.Daemon{}, 1, api.OK},
		{"items", state.State, 2, api.OK},
		{"40", of(items(40)...), 40, api.OK},
		{"room 0", api.Daemon{}, 0, api.ErrRange},
		{"room 41", api.Daemon{}, 41, api.ErrRange},
		{"room -1", twice, -1, api.ErrRange},
		{"first place", bad(of(), 0, 65536), 1, api.ErrRange},
		{"second place", bad(of(), 1, -1), 1, api.ErrRange},
		{"place ahead of twice", bad(twice, 1, -1), 5, api.ErrRange},
		{"stage", of(item(0, 0, 1)), 5, api.ErrRange},
		{"stage ahead of twice", of(item(1, 0, 1), item(2, 0, 1), item(3, 0, 2)), 5, api.ErrRange},
		{"packet", of(api.Item{Stage: 1}), 5, api.ErrRange},
		{"twice", twice, 5, api.ErrTwice},
		{"twice ahead of full", twice, 1, api.ErrTwice},
		{"full", of(items(3)...), 2, api.ErrFull},
		{"full ahead of order", of(item(1, 0, 2), item(1, 0, 1)), 1, api.ErrFull},
		{"order", of(item(1, 0, 2), item(1, 0, 1)), 2, api.ErrOrder},
		{"order of chains", of(item(1, 1, 1), item(1, 0, 2)), 2, api.ErrOrder},
	} {
		if err := record.Check(c.d, c.room); err != c.want {
			t.Errorf("%s: %d, not %d", c.name, err, c.want)
		}
	}
}

// P17.2: the state behind a record.
func TestStep(t *testing.T) {
	was := api.Daemon{Places: places, Items: []api.Item{item(1, 0, 1)}}
	got, err := record.Step(was, 2, scan)
	want := api.Daemon{Places: [2]api.Place{places[0], {Height: 258, Index: 3}}, Items: []api.Item{item(2, 0, 1), item(1, 1, 2)}}
	if err != api.OK || !same(got, want) {
		t.Errorf("%v, %d", got, err)
	}
	if !same(was, api.Daemon{Places: places, Items: []api.Item{item(1, 0, 1)}}) {
		t.Error("what was handed in is changed")
	}
	first := scan
	first.Chain, first.Notes = 0, nil
	got, err = record.Step(was, 2, first)
	want = api.Daemon{Places: [2]api.Place{{Height: 258, Index: 3}, places[1]}, Items: was.Items}
	if err != api.OK || !same(got, want) {
		t.Errorf("%v, %d", got, err)
	}
	got.Items[0] = api.Item{}
	if was.Items[0] != item(1, 0, 1) {
		t.Error("the answer shares memory")
	}
	got, err = record.Step(was, 2, state)
	if err != api.OK || !same(got, state.State) {
		t.Errorf("%v, %d", got, err)
	}
	got.Items[0] = api.Item{}
	if state.State.Items[0] != item(2, 0, 1) {
		t.Error("the answer shares memory")
	}
}

// P17.2: what leads to no state, and the order of errors.
func TestStepWrong(t *testing.T) {
	good := api.Daemon{Items: items(2)}
	order := api.Daemon{Items: []api.Item{item(1, 0, 2), item(1, 0, 1)}}
	inRecord := func(d api.Daemon) api.Record { return api.Record{Kind: api.RecState, State: d} }
	of := func(l ...api.Note) api.Record { return api.Record{Kind: api.RecScan, Notes: l} }
	for _, c := range []struct {
		name string
		d    api.Daemon
		room int
		r    api.Record
		want api.Errno
	}{
		{"room", good, 0, scan, api.ErrRange},
		{"the state is in no order", order, 5, api.Record{}, api.ErrOrder},
		{"the state is too large", good, 1, api.Record{}, api.ErrFull},
		{"the state has one twice", api.Daemon{Items: append(items(1), items(1)...)}, 5, api.Record{}, api.ErrTwice},
		{"no record", good, 5, api.Record{}, api.ErrRange},
		{"a record of too much", good, 5, of(notes(17)...), api.ErrRange},
		{"a note that may not be", good, 2, of(append(notes(1), note(5, 0, 1))...), api.ErrRange},
		{"full", good, 2, of(note(api.Sent, 0, 9)), api.ErrFull},
		{"full behind others", good, 3, of(note(api.Sent, 0, 1), note(api.Sent, 0, 9), note(api.Received, 1, 9), note(api.Acked, 0, 1)), api.ErrFull},
		{"its state is too large", good, 2, inRecord(api.Daemon{Items: items(3)}), api.ErrFull},
		{"its state is in no order", good, 2, inRecord(order), api.ErrOrder},
		{"its state has one twice", good, 2, inRecord(api.Daemon{Items: append(items(1), items(1)...)}), api.ErrTwice},
	} {
		if d, err := record.Step(c.d, c.room, c.r); err != c.want || !same(d, api.Daemon{}) {
			t.Errorf("%s: %v, %d, not %d", c.name, d, err, c.want)
		}
	}
}

// P17.3: the document's example, and a longer one.
func TestReplay(t *testing.T) {
	first := bytesOf(t, api.Record{Kind: api.RecState, State: api.Daemon{Places: places}})
	one := bytesOf(t, api.Record{Kind: api.RecScan, Place: api.Place{Height: 5, Index: 1}, Notes: []api.Note{note(api.Sent, 0, 1)}})
	d, err := record.Replay(1, first, one)
	if err != api.OK || !same(d, api.Daemon{Places: places, Items: []api.Item{item(api.ToRecv, 0, 1)}}) {
		t.Errorf("%v, %d", d, err)
	}
	d, err = record.Replay(1, first)
	if err != api.OK || !same(d, api.Daemon{Places: places}) {
		t.Errorf("%v, %d", d, err)
	}
	d, err = record.Replay(2, first, one, bytesOf(t, scan))
	if err != api.OK || !same(d, api.Daemon{Places: [2]api.Place{{Height: 5, Index: 1}, scan.Place}, Items: []api.Item{item(2, 0, 1), item(1, 1, 2)}}) {
		t.Errorf("%v, %d", d, err)
	}
	d, err = record.Replay(2, first, one, bytesOf(t, state))
	if err != api.OK || !same(d, state.State) {
		t.Errorf("%v, %d", d, err)
	}
}

// P17.3: what can't be replayed.
func TestReplayWrong(t *testing.T) {
	first := bytesOf(t, api.Record{Kind: api.RecState})
	two := bytesOf(t, api.Record{Kind: api.RecState, State: api.Daemon{Items: items(2)}})
	order := bytesOf(t, api.Record{Kind: api.RecState, State: api.Daemon{Items: []api.Item{item(1, 0, 2), item(1, 0, 1)}}})
	twice := bytesOf(t, api.Record{Kind: api.RecState, State: api.Daemon{Items: append(items(1), items(1)...)}})
	one := bytesOf(t, api.Record{Kind: api.RecScan, Notes: []api.Note{note(api.Sent, 0, 7)}})
	for _, c := range []struct {
		name string
		room int
		l    []string
		want api.Errno
	}{
		{"none", 5, nil, api.ErrNone},
		{"none, of no room", 0, nil, api.ErrNone},
		{"no room", 0, []string{first}, api.ErrRange},
		{"room 41", 41, []string{first}, api.ErrRange},
		{"the first is empty", 5, []string{"", first}, api.ErrShort},
		{"the first is too long", 5, []string{first + "x"}, api.ErrMore},
		{"the first is of no kind", 0, []string{"\x07"}, api.ErrForm},
		{"the first is a scan", 5, []string{one, first}, api.ErrForm},
		{"the first is a scan, of no room", 0, []string{one}, api.ErrForm},
		{"the first is too large", 1, []string{two, ""}, api.ErrFull},
		{"the first is in no order", 5, []string{order, ""}, api.ErrOrder},
		{"the first has one twice", 5, []string{twice, ""}, api.ErrTwice},
		{"the second is empty", 5, []string{first, ""}, api.ErrShort},
		{"the second is too long", 5, []string{first, one + "x"}, api.ErrMore},
		{"the second is too large", 1, []string{first, two, ""}, api.ErrFull},
		{"the second is in no order", 5, []string{first, order, ""}, api.ErrOrder},
		{"the third can't be applied", 2, []string{first, two, one, ""}, api.ErrFull},
		{"the third is empty", 2, []string{first, two, "", one}, api.ErrShort},
	} {
		if d, err := record.Replay(c.room, c.l...); err != c.want || !same(d, api.Daemon{}) {
			t.Errorf("%s: %v, %d, not %d", c.name, d, err, c.want)
		}
	}
}
