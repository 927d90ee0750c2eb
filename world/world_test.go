package world_test

import (
	"math"
	"slices"
	"strings"
	"testing"

	"carrack/api"
	"carrack/chain"
	"carrack/packet"
	"carrack/world"
)

const most = math.MaxUint64

var config = api.Config{Sector: 128, Sectors: 64, Table: 8, Batch: 8, Scan: 8, Heights: [2]uint64{5, 50}, Seqs: [2]uint64{1, 10}}

func with(change func(*api.Config)) api.Config {
	c := config
	change(&c)
	return c
}

func fresh(t *testing.T, c api.Config) *world.World {
	t.Helper()
	w, err := world.New(c)
	if err != api.OK || w == nil {
		t.Fatalf("new: %d", err)
	}
	if w.Down() {
		t.Fatal("the daemon is down")
	}
	return w
}

// same: nil and empty lists mean the same.
func same(a, b api.Reply) bool {
	return a.Err == b.Err && a.Seq == b.Seq && a.Count == b.Count && slices.Equal(a.Codes, b.Codes)
}

func do(t *testing.T, w *world.World, a api.Act, want api.Reply) {
	t.Helper()
	if got := w.Do(a); !same(got, want) {
		t.Fatalf("%+v: %+v, not %+v", a, got, want)
	}
}

func send(t *testing.T, w *world.World, k int, timeout uint64) api.Packet {
	t.Helper()
	p := api.Packet{From: k, Seq: w.Chains()[k].Next(), Timeout: timeout, Data: "data"}
	do(t, w, api.Act{Kind: api.ActSend, Chain: k, Timeout: timeout, Data: "data"}, api.Reply{Seq: p.Seq})
	return p
}

func commit(t *testing.T, w *world.World, chains ...int) {
	t.Helper()
	for _, k := range chains {
		do(t, w, api.Act{Kind: api.ActCommit, Chain: k}, api.Reply{})
	}
}

func step(t *testing.T, w *world.World, count int) {
	t.Helper()
	do(t, w, api.Act{Kind: api.ActStep}, api.Reply{Count: count})
}

// deliver: the first message; it is told just that error.
func deliver(t *testing.T, w *world.World, want api.Errno) {
	t.Helper()
	do(t, w, api.Act{Kind: api.ActDeliver}, api.Reply{Codes: []api.Errno{want}})
}

func flight(t *testing.T, w *world.World, kinds ...int) {
	t.Helper()
	var got []int
	for _, m := range w.Flight() {
		got = append(got, m.Kind)
	}
	if !slices.Equal(got, kinds) {
		t.Fatalf("on their way: %v, not %v", got, kinds)
	}
}

func items(t *testing.T, w *world.World, want ...api.Item) {
	t.Helper()
	if got := w.State().Items; !slices.Equal(got, want) {
		t.Fatalf("%v, not %v", got, want)
	}
}

func log(c *chain.Chain) []api.Note {
	l, _ := c.Log(c.First(), math.MaxInt)
	return l
}

// P21.1: which configurations may be.
func TestNew(t *testing.T) {
	for name, c := range map[string]api.Config{
		"zero":         {},
		"sector below": with(func(c *api.Config) { c.Sector = 63 }), "sector above": with(func(c *api.Config) { c.Sector = 513 }),
		"sectors below": with(func(c *api.Config) { c.Sectors = 3 }), "sectors above": with(func(c *api.Config) { c.Sectors = 4097 }),
		"table below": with(func(c *api.Config) { c.Table = 0 }), "table above": with(func(c *api.Config) { c.Table = 41 }),
		"batch below": with(func(c *api.Config) { c.Batch = 1 }), "batch above": with(func(c *api.Config) { c.Batch = 17 }),
		"scan below": with(func(c *api.Config) { c.Scan = 0 }), "scan above": with(func(c *api.Config) { c.Scan = 17 }),
		"first sequence": with(func(c *api.Config) { c.Seqs[0] = 0 }), "second sequence": with(func(c *api.Config) { c.Seqs[1] = 0 }),
		"sector far below": with(func(c *api.Config) { c.Sector = math.MinInt }), "table far above": with(func(c *api.Config) { c.Table = math.MaxInt }),
	} {
		if w, err := world.New(c); err != api.ErrRange || w != nil {
			t.Errorf("%s: %d", name, err)
		}
	}
	for _, c := range []api.Config{
		config, {Sector: 64, Sectors: 4, Table: 1, Batch: 2, Scan: 1, Seqs: [2]uint64{1, 1}},
		{Sector: 512, Sectors: 4096, Table: 40, Batch: 16, Scan: 16, Heights: [2]uint64{most, most}, Seqs: [2]uint64{most, most}},
	} {
		w := fresh(t, c)
		places := [2]api.Place{{Height: c.Heights[0]}, {Height: c.Heights[1]}}
		for k, one := range w.Chains() {
			if one.Height() != c.Heights[k] || one.Next() != c.Seqs[k] {
				t.Errorf("chain %d: %d, %d", k, one.Height(), one.Next())
			}
		}
		if d := w.State(); d.Places != places || len(d.Items) != 0 || len(w.Flight()) != 0 {
			t.Errorf("%+v", d)
		}
		if d, ok := w.Rescan(); d.Places != places || len(d.Items) != 0 || !ok {
			t.Errorf("%+v, %v", d, ok)
		}
	}
}

// P21.1: acts that are none, or of no chain.
func TestDoRange(t *testing.T) {
	w := fresh(t, config)
	for _, kind := range []int{-1, 9, 255, math.MaxInt, math.MinInt} {
		do(t, w, api.Act{Kind: kind, Data: "x", Timeout: 99, N: 1}, api.Reply{Err: api.ErrRange})
	}
	for _, k := range []int{-1, 2, math.MaxInt, math.MinInt} {
		do(t, w, api.Act{Kind: api.ActSend, Chain: k, Timeout: 99}, api.Reply{Err: api.ErrRange})
		do(t, w, api.Act{Kind: api.ActCommit, Chain: k}, api.Reply{Err: api.ErrRange})
	}
	if w.Chains()[0].Height() != 5 || w.Chains()[1].Height() != 50 || len(w.Chains()[0].Map())+len(w.Chains()[1].Map()) != 0 {
		t.Error("something has changed")
	}
}

// P21.1: sends and commits, and their errors.
func TestSendAndCommit(t *testing.T) {
	w := fresh(t, config)
	do(t, w, api.Act{Kind: api.ActSend, Chain: 0, Timeout: 99, Data: "a"}, api.Reply{Seq: 1})
	do(t, w, api.Act{Kind: api.ActSend, Chain: 0, Timeout: 99, Data: "b"}, api.Reply{Seq: 2})
	do(t, w, api.Act{Kind: api.ActSend, Chain: 1, Timeout: 9}, api.Reply{Seq: 10})
	do(t, w, api.Act{Kind: api.ActSend, Chain: 0}, api.Reply{Err: api.ErrRange})
	do(t, w, api.Act{Kind: api.ActSend, Chain: 0, Timeout: 1, Data: strings.Repeat("d", 65)}, api.Reply{Err: api.ErrRange})
	commit(t, w, 0, 1, 1)
	if w.Chains()[0].Height() != 6 || w.Chains()[1].Height() != 52 || len(log(w.Chains()[0])) != 2 || log(w.Chains()[0])[1].Packet.Data != "b" {
		t.Error("blocks")
	}
	w = fresh(t, with(func(c *api.Config) { c.Heights[1] = most }))
	do(t, w, api.Act{Kind: api.ActSend, Chain: 1, Timeout: 9}, api.Reply{Err: api.ErrOver})
	do(t, w, api.Act{Kind: api.ActCommit, Chain: 1}, api.Reply{Err: api.ErrOver})
}

// The document's example: two messages on their way, an update and the packet; then to the answer.
func TestExample(t *testing.T) {
	for k := range 2 {
		w := fresh(t, config)
		p := send(t, w, k, 100)
		step(t, w, 0)
		commit(t, w, 0, 1)
		step(t, w, 2)
		flight(t, w, api.MsgUpdate, api.MsgRecv)
		items(t, w, api.Item{Packet: p, Stage: api.ToRecv})
		deliver(t, w, api.OK)
		deliver(t, w, api.OK)
		do(t, w, api.Act{Kind: api.ActDeliver}, api.Reply{Err: api.ErrNone})
		step(t, w, 0)
		commit(t, w, 0, 1)
		step(t, w, 2)
		flight(t, w, api.MsgUpdate, api.MsgAck)
		items(t, w, api.Item{Packet: p, Stage: api.ToAck})
		deliver(t, w, api.OK)
		deliver(t, w, api.OK)
		step(t, w, 0)
		items(t, w)
		commit(t, w, 0, 1)
		step(t, w, 0)
		items(t, w)
		if l := log(w.Chains()[k]); len(l) != 2 || l[1] != (api.Note{Kind: api.Acked, Packet: p}) {
			t.Error(l)
		}
		heights := [2]uint64{w.Chains()[0].Height(), w.Chains()[1].Height()}
		if d := w.State(); d.Places[0].Height != heights[0] || d.Places[1].Height != heights[1] {
			t.Errorf("%+v", d)
		}
	}
}

// Example 2 of the whole: a step whose disk fails submits nothing; the daemon is down till a crash.
func TestStepFails(t *testing.T) {
	for n := 1; ; n++ {
		w := fresh(t, config)
		p := send(t, w, 0, 100)
		commit(t, w, 0, 1)
		before := w.State()
		do(t, w, api.Act{Kind: api.ActFail, N: n}, api.Reply{})
		got := w.Do(api.Act{Kind: api.ActStep})
		if got.Err == api.OK {
			if n < 4 || got.Count != 2 {
				t.Errorf("the call %d doesn't fail: %+v", n, got)
			}
			break
		}
		if !same(got, api.Reply{Err: api.ErrIO}) || !w.Down() || len(w.Flight()) != 0 {
			t.Fatalf("call %d: %+v", n, got)
		}
		if d := w.State(); n == 1 && (d.Places != before.Places || len(d.Items) != 0) {
			t.Fatalf("call %d: %+v", n, d)
		}
		do(t, w, api.Act{Kind: api.ActStep}, api.Reply{Err: api.ErrHalt})
		if d, ok := w.Rescan(); !ok || !slices.Equal(d.Items, []api.Item{{Packet: p, Stage: api.ToRecv}}) {
			t.Fatalf("a halted journal's rescan: %+v", d)
		}
		do(t, w, api.Act{Kind: api.ActCrash}, api.Reply{})
		if w.Down() {
			t.Fatal("down behind a crash")
		}
		step(t, w, 2)
		items(t, w, api.Item{Packet: p, Stage: api.ToRecv})
	}
}

// Example 3 of the whole: a message that is delivered twice is refused the second time.
func TestTwice(t *testing.T) {
	w := fresh(t, config)
	send(t, w, 0, 100)
	commit(t, w, 0, 1)
	step(t, w, 2)
	do(t, w, api.Act{Kind: api.ActTwice, N: 1}, api.Reply{})
	do(t, w, api.Act{Kind: api.ActTwice, N: 0}, api.Reply{})
	flight(t, w, api.MsgUpdate, api.MsgRecv, api.MsgRecv, api.MsgUpdate)
	deliver(t, w, api.OK)
	deliver(t, w, api.OK)
	deliver(t, w, api.ErrTwice)
	deliver(t, w, api.ErrTwice)
	for _, kind := range []int{api.ActTwice, api.ActDeliver, api.ActDrop} {
		for _, n := range []int{0, -1, 9, math.MaxInt, math.MinInt} {
			do(t, w, api.Act{Kind: kind, N: n}, api.Reply{Err: api.ErrNone})
		}
	}
}

// Example 4 of the whole: the other chain comes to the Timeout first.
func TestTimeout(t *testing.T) {
	w := fresh(t, config)
	p := send(t, w, 0, 52)
	commit(t, w, 0, 1)
	step(t, w, 2)
	flight(t, w, api.MsgUpdate, api.MsgTimeout)
	deliver(t, w, api.OK)
	deliver(t, w, api.OK)
	commit(t, w, 0, 1)
	step(t, w, 0)
	items(t, w)
	if l := log(w.Chains()[0]); len(l) != 2 || l[1] != (api.Note{Kind: api.TimedOut, Packet: p}) {
		t.Error(l)
	}
}

// P21.1: drops, and orders other than the first one's.
func TestDropAndOrder(t *testing.T) {
	w := fresh(t, config)
	p := send(t, w, 0, 100)
	commit(t, w, 0, 1)
	step(t, w, 2)
	do(t, w, api.Act{Kind: api.ActDeliver, N: 1}, api.Reply{Codes: []api.Errno{api.ErrEarly}})
	flight(t, w, api.MsgUpdate)
	do(t, w, api.Act{Kind: api.ActDrop}, api.Reply{})
	flight(t, w)
	step(t, w, 2)
	do(t, w, api.Act{Kind: api.ActDrop, N: 1}, api.Reply{})
	flight(t, w, api.MsgUpdate)
	step(t, w, 2)
	flight(t, w, api.MsgUpdate, api.MsgUpdate, api.MsgRecv)
	deliver(t, w, api.OK)
	deliver(t, w, api.ErrTwice)
	deliver(t, w, api.OK)
	if _, there := w.Chains()[1].Get(packet.Received(p.Seq)); !there {
		t.Error("not received")
	}
}

// P21.1: forged messages are delivered, but no updates.
func TestForge(t *testing.T) {
	w := fresh(t, config)
	p := send(t, w, 0, 100)
	commit(t, w, 0, 1)
	forge := func(m api.Message, want api.Reply) {
		t.Helper()
		do(t, w, api.Act{Kind: api.ActForge, Message: m}, want)
	}
	forge(api.Message{Kind: api.MsgUpdate, To: 1, Height: 6}, api.Reply{Err: api.ErrRange})
	if len(w.Chains()[1].Known()) != 0 {
		t.Error("an update was forged")
	}
	forge(api.Message{Kind: api.MsgUpdate, To: 9}, api.Reply{Err: api.ErrRange})
	forge(api.Message{}, api.Reply{Codes: []api.Errno{api.ErrRange}})
	forge(api.Message{Kind: 5}, api.Reply{Codes: []api.Errno{api.ErrRange}})
	forge(api.Message{Kind: api.MsgRecv, To: 2}, api.Reply{Codes: []api.Errno{api.ErrRange}})
	proof, _ := w.Chains()[0].Prove(packet.Sent(p.Seq), 6)
	good := api.Message{Kind: api.MsgRecv, To: 1, Height: 6, Packet: p, Proof: proof}
	forge(good, api.Reply{Codes: []api.Errno{api.ErrEarly}})
	step(t, w, 2)
	deliver(t, w, api.OK)
	bad := good
	bad.Packet.Data = "forged"
	forge(bad, api.Reply{Codes: []api.Errno{api.ErrProof}})
	bad = good
	bad.Kind = api.MsgAck
	forge(bad, api.Reply{Codes: []api.Errno{api.ErrRange}})
	forge(good, api.Reply{Codes: []api.Errno{api.OK}})
	forge(good, api.Reply{Codes: []api.Errno{api.ErrTwice}})
	flight(t, w, api.MsgRecv)
	deliver(t, w, api.ErrTwice)
}

// P21.1: a step takes Scan notes of each chain at most, and as many as the table has room for.
func TestStepScans(t *testing.T) {
	w := fresh(t, with(func(c *api.Config) { c.Scan, c.Table = 2, 5 }))
	var p [2][]api.Packet
	for range 4 {
		for k := range 2 {
			p[k] = append(p[k], send(t, w, k, 100))
		}
	}
	commit(t, w, 0, 1)
	is := func(a, b int) []api.Item {
		var l []api.Item
		for k, n := range []int{a, b} {
			for _, q := range p[k][:n] {
				l = append(l, api.Item{Packet: q, Stage: api.ToRecv})
			}
		}
		return l
	}
	step(t, w, 6)
	items(t, w, is(2, 2)...)
	if d := w.State(); d.Places != [2]api.Place{{Height: 6, Index: 2}, {Height: 51, Index: 2}} {
		t.Errorf("%+v", d)
	}
	if d, ok := w.Rescan(); !ok || !slices.Equal(d.Items, is(4, 4)) || d.Places != [2]api.Place{{Height: 6, Index: 4}, {Height: 51, Index: 4}} {
		t.Errorf("%+v, %v", d, ok)
	}
	step(t, w, 7)
	items(t, w, is(3, 2)...)
	if d := w.State(); d.Places != [2]api.Place{{Height: 6, Index: 3}, {Height: 51, Index: 2}} {
		t.Errorf("%+v", d)
	}
}

// P21.1: a step sends a batch to each chain at most, the first chain's list first, as far as the net has room.
func TestStepBatch(t *testing.T) {
	w := fresh(t, with(func(c *api.Config) { c.Batch = 3 }))
	for range 4 {
		send(t, w, 0, 100)
		send(t, w, 1, 100)
	}
	commit(t, w, 0, 1)
	step(t, w, 6)
	for i, m := range w.Flight() {
		if m.To != i/3 {
			t.Errorf("message %d goes to %d", i, m.To)
		}
	}
	flight(t, w, api.MsgUpdate, api.MsgRecv, api.MsgRecv, api.MsgUpdate, api.MsgRecv, api.MsgRecv)
	for len(w.Flight()) < 254 {
		do(t, w, api.Act{Kind: api.ActTwice}, api.Reply{})
	}
	step(t, w, 2)
	step(t, w, 0)
	do(t, w, api.Act{Kind: api.ActTwice}, api.Reply{Err: api.ErrFull})
	if len(w.Flight()) != 256 {
		t.Error(len(w.Flight()))
	}
}

// P21.1: first the items are cleared whose packets don't stand: Scan of them, with the place as it is.
func TestStepClears(t *testing.T) {
	w := fresh(t, with(func(c *api.Config) { c.Scan = 3 }))
	var p []api.Packet
	for range 5 {
		p = append(p, send(t, w, 0, 52))
	}
	commit(t, w, 0, 1)
	step(t, w, 4)
	step(t, w, 6)
	if len(w.State().Items) != 5 {
		t.Fatal(w.State())
	}
	at := w.State().Places
	for range 10 {
		w.Do(api.Act{Kind: api.ActDeliver})
	}
	if d, ok := w.Rescan(); !ok || len(d.Items) != 0 || d.Places != at {
		t.Errorf("%+v, %v", d, ok)
	}
	step(t, w, 0)
	items(t, w, api.Item{Packet: p[3], Stage: api.ToRecv}, api.Item{Packet: p[4], Stage: api.ToRecv})
	if w.State().Places != at {
		t.Error(w.State().Places)
	}
	step(t, w, 0)
	items(t, w)
	commit(t, w, 0)
	step(t, w, 0)
	if d := w.State(); d.Places[0] != (api.Place{Height: 7, Index: 3}) || len(d.Items) != 0 {
		t.Errorf("%+v", d)
	}
}

// P21.1: what the daemon sees of packets that don't stand any more takes no room.
func TestStepSeesWhatIsOver(t *testing.T) {
	w := fresh(t, with(func(c *api.Config) { c.Table, c.Scan = 1, 16 }))
	other := fresh(t, config)
	var all [2][]api.Packet
	for i := range 3 {
		for k, v := range []*world.World{w, other} {
			timeout := uint64(52)
			if i == 1 {
				timeout = 200
			}
			all[k] = append(all[k], send(t, v, 0, timeout))
		}
	}
	for _, v := range []*world.World{w, other} {
		commit(t, v, 0, 1)
	}
	// What the second world's daemon plans is forged in the first one, whose own is told to know the heights.
	step(t, w, 2)
	deliver(t, w, api.OK)
	do(t, w, api.Act{Kind: api.ActDrop}, api.Reply{})
	step(t, other, 5)
	for _, m := range other.Flight() {
		if m.Kind == api.MsgTimeout && m.Packet.Seq == 3 {
			do(t, w, api.Act{Kind: api.ActForge, Message: m}, api.Reply{Codes: []api.Errno{api.OK}})
		}
	}
	commit(t, w, 0)
	step(t, w, 1)
	items(t, w, api.Item{Packet: all[0][0], Stage: api.ToRecv})
	deliver(t, w, api.OK)
	step(t, w, 2)
	items(t, w, api.Item{Packet: all[0][1], Stage: api.ToRecv})
	if d := w.State(); d.Places[0] != (api.Place{Height: 7, Index: 1}) {
		t.Errorf("%+v", d)
	}
}

// P21.1: a step that moves a place alone journals it; one that moves none doesn't touch the disk.
func TestStepTouchesTheDisk(t *testing.T) {
	w := fresh(t, config)
	do(t, w, api.Act{Kind: api.ActFail, N: 1}, api.Reply{})
	step(t, w, 0)
	commit(t, w, 1)
	do(t, w, api.Act{Kind: api.ActStep}, api.Reply{Err: api.ErrIO})
	do(t, w, api.Act{Kind: api.ActCrash}, api.Reply{})
	if d := w.State(); d.Places[1].Height != 50 {
		t.Errorf("%+v", d)
	}
	step(t, w, 0)
	if d := w.State(); d.Places[1].Height != 51 {
		t.Errorf("%+v", d)
	}
	do(t, w, api.Act{Kind: api.ActFail, N: 1}, api.Reply{})
	do(t, w, api.Act{Kind: api.ActFail, N: 0}, api.Reply{})
	commit(t, w, 1)
	step(t, w, 0)
	if w.Down() {
		t.Error("a disk that isn't armed fails")
	}
}

// P21.1: crashes let writes last as they are told.
func TestCrash(t *testing.T) {
	for _, c := range []struct {
		writes []api.Write
		lasts  bool
	}{
		{nil, false}, {[]api.Write{{Lasts: true}}, true}, {[]api.Write{{Lasts: true, Torn: 40}}, false}, {[]api.Write{{Torn: 3}}, false},
		{[]api.Write{{Lasts: true, Torn: 128}, {Lasts: true, Torn: 1}}, true},
	} {
		w := fresh(t, config)
		p := send(t, w, 0, 100)
		commit(t, w, 0)
		do(t, w, api.Act{Kind: api.ActFail, N: 2}, api.Reply{})
		do(t, w, api.Act{Kind: api.ActStep}, api.Reply{Err: api.ErrIO})
		do(t, w, api.Act{Kind: api.ActCrash, Writes: c.writes}, api.Reply{})
		if c.lasts {
			items(t, w, api.Item{Packet: p, Stage: api.ToRecv})
		} else {
			items(t, w)
		}
		step(t, w, 2)
	}
}

// P21.1: a disk without room for the state: the daemon isn't down, but its steps fail.
func TestStepWithoutRoom(t *testing.T) {
	w := fresh(t, api.Config{Sector: 64, Sectors: 4, Table: 4, Batch: 4, Scan: 4, Seqs: [2]uint64{1, 1}})
	commit(t, w, 0, 1)
	step(t, w, 0)
	send(t, w, 1, 100)
	commit(t, w, 0, 1)
	do(t, w, api.Act{Kind: api.ActStep}, api.Reply{Err: api.ErrFull})
	if d := w.State(); w.Down() || d.Places != [2]api.Place{{Height: 2}, {Height: 1}} {
		t.Errorf("%+v", d)
	}
	if d, ok := w.Rescan(); !ok || len(d.Items) != 1 {
		t.Errorf("%+v, %v", d, ok)
	}
}

// P21.2: what is told shares nothing with the world; Rescan changes nothing, and tells if it isn't whole.
func TestTold(t *testing.T) {
	w := fresh(t, config)
	send(t, w, 0, 100)
	commit(t, w, 0, 1)
	step(t, w, 2)
	w.State().Items[0] = api.Item{}
	w.Flight()[0] = api.Message{}
	d, _ := w.Rescan()
	d.Items[0] = api.Item{}
	if w.State().Items[0] == (api.Item{}) || w.Flight()[0] == (api.Message{}) {
		t.Error("shared")
	}
	for range 39 {
		send(t, w, 0, 100)
	}
	commit(t, w, 0, 1)
	before := w.State()
	if d, ok := w.Rescan(); !ok || len(d.Items) != 40 {
		t.Errorf("%d items, %v", len(d.Items), ok)
	}
	send(t, w, 1, 100)
	commit(t, w, 0, 1)
	if _, ok := w.Rescan(); ok {
		t.Error("41 items fit into 40")
	}
	if d := w.State(); d.Places != before.Places || !slices.Equal(d.Items, before.Items) {
		t.Error("Rescan has changed something")
	}
}
