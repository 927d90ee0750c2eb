package world_test

import (
	"fmt"
	"maps"
	"slices"
	"testing"

	"carrack/api"
	"carrack/packet"
	"carrack/world"
)

// draws is a row of numbers that hangs on its seed alone.
type draws uint64

func (d *draws) draw(n int) int {
	*d = *d*6364136223846793005 + 1442695040888963407
	return int(uint64(*d)>>33) % n
}

// message: one that was on its way, or one that is made up of such.
func (d *draws) message(w *world.World, old []api.Message) api.Message {
	if len(old) == 0 {
		return api.Message{Kind: api.MsgRecv, To: d.draw(2)}
	}
	m := old[d.draw(len(old))]
	switch d.draw(7) {
	case 0:
		m.Kind = d.draw(6)
	case 1:
		m.Packet = old[d.draw(len(old))].Packet
	case 2:
		m.Proof = old[d.draw(len(old))].Proof
	case 3:
		m.To = d.draw(3)
	case 4:
		m.Height += uint64(d.draw(3)) - 1
	case 5:
		one := w.Chains()[d.draw(2)]
		m.Proof, _ = one.Prove(packet.Received(m.Packet.Seq), one.Height())
		m.Height = one.Height()
	}
	return m
}

// act: whatever may be asked; committing and stepping more often than the rest.
func (d *draws) act(w *world.World, old []api.Message) api.Act {
	k := d.draw(2)
	switch d.draw(20) {
	case 0, 1:
		timeout := w.Chains()[1-k].Height() + uint64(d.draw(30))
		return api.Act{Kind: api.ActSend, Chain: k, Timeout: timeout, Data: fmt.Sprint(d.draw(5))}
	case 2, 3, 11:
		return api.Act{Kind: api.ActCommit, Chain: k}
	case 4, 5, 12, 13:
		return api.Act{Kind: api.ActStep}
	case 6:
		return api.Act{Kind: api.ActDrop, N: d.draw(3)}
	case 7:
		return api.Act{Kind: api.ActTwice, N: d.draw(4)}
	case 8:
		return api.Act{Kind: api.ActForge, Message: d.message(w, old)}
	case 9:
		return api.Act{Kind: api.ActFail, N: d.draw(6)}
	case 10:
		a := api.Act{Kind: api.ActCrash}
		for range d.draw(6) {
			a.Writes = append(a.Writes, api.Write{Lasts: d.draw(2) == 0, Torn: d.draw(80)})
		}
		return a
	}
	return api.Act{Kind: api.ActDeliver, N: d.draw(3) * d.draw(2)}
}

// outcome is what the blocks tell of a packet.
type outcome struct{ sent, received, acked, timed int }

func outcomes(w *world.World) map[api.Packet]outcome {
	all := map[api.Packet]outcome{}
	for _, c := range w.Chains() {
		for _, n := range log(c) {
			o := all[n.Packet]
			switch n.Kind {
			case api.Sent:
				o.sent++
			case api.Received:
				o.received++
			case api.Acked:
				o.acked++
			case api.TimedOut:
				o.timed++
			}
			all[n.Packet] = o
		}
	}
	return all
}

// right: P21.3 of the blocks' notes.
func right(t *testing.T, all map[api.Packet]outcome) {
	t.Helper()
	for p, o := range all {
		if o.sent != 1 || o.received > 1 || o.received > 0 && o.timed > 0 || o.acked > 0 && o.received == 0 || o.acked+o.timed > 1 {
			t.Fatalf("%+v: %+v", p, o)
		}
	}
}

// pending: the items of the packets that were sent in a block, and stand.
func pending(w *world.World, all map[api.Packet]outcome) []api.Item {
	var l []api.Item
	for p, o := range all {
		if v, there := w.Chains()[p.From].Get(packet.Sent(p.Seq)); there && v == packet.Commitment(p) {
			l = append(l, api.Item{Packet: p, Stage: api.ToRecv + o.received})
		}
	}
	slices.SortFunc(l, func(a, b api.Item) int {
		if a.Packet.From != b.Packet.From {
			return a.Packet.From - b.Packet.From
		}
		return int(a.Packet.Seq) - int(b.Packet.Seq)
	})
	return l
}

// P21.3 and P21.4 (P0.2, P0.3): whatever acts.
func TestManyActs(t *testing.T) {
	var sum outcome
	rescans, crashes, halts := 0, 0, 0
	for seed := range 12 {
		d := draws(seed)
		c := api.Config{
			Sector: 64 + d.draw(100), Sectors: 12 + d.draw(60), Table: 1 + d.draw(40), Batch: 2 + d.draw(15), Scan: 1 + d.draw(16),
			Heights: [2]uint64{uint64(d.draw(20)), uint64(d.draw(20))}, Seqs: [2]uint64{uint64(1 + d.draw(3)), uint64(1 + d.draw(3))},
		}
		w := fresh(t, c)
		var old []api.Message
		for range 700 {
			a := d.act(w, old)
			wasDown := w.Down()
			before := outcomes(w)
			r := w.Do(a)
			if a.Kind == api.ActStep && (r.Err == api.ErrHalt) != wasDown {
				t.Fatal("a step of a daemon that is down, or isn't")
			}
			old = append(old, w.Flight()...)
			old = old[max(0, len(old)-50):]
			if a.Kind == api.ActCrash {
				crashes++
				if r.Err != api.OK || w.Down() {
					t.Fatalf("the journal isn't opened anew: %d", r.Err)
				}
			}
			if w.Down() {
				halts++
			}
			all := outcomes(w)
			if a.Kind != api.ActCommit && !maps.Equal(all, before) {
				t.Fatal("blocks change without a commit")
			}
			right(t, all)
			if n := len(w.State().Items); n > c.Table || len(w.Flight()) > api.MaxFlight {
				t.Fatalf("%d items, %d messages", n, len(w.Flight()))
			}
			got, whole := w.Rescan()
			if !whole {
				continue
			}
			rescans++
			if want := pending(w, all); !slices.Equal(got.Items, want) {
				t.Fatalf("seed %d, behind %+v: %v, not %v", seed, a, got.Items, want)
			}
		}
		for _, o := range outcomes(w) {
			sum.sent += o.sent
			sum.received += o.received
			sum.acked += o.acked
			sum.timed += o.timed
		}
	}
	if sum.sent < 400 || sum.received < 80 || sum.acked < 50 || sum.timed < 20 || rescans < 3000 || crashes < 100 || halts < 100 {
		t.Errorf("too little was done: %+v, %d rescans, %d crashes, %d halts", sum, rescans, crashes, halts)
	}
}

// P21.1 (P0.1): the same acts come to the same, twice.
func TestSameActs(t *testing.T) {
	for seed := range 4 {
		d := draws(100 + seed)
		a, b := fresh(t, config), fresh(t, config)
		for range 300 {
			act := d.act(a, a.Flight())
			ra, rb := a.Do(act), b.Do(act)
			if !same(ra, rb) || !slices.Equal(a.Flight(), b.Flight()) || a.Down() != b.Down() || !slices.Equal(a.State().Items, b.State().Items) || a.State().Places != b.State().Places {
				t.Fatalf("%+v: %+v, %+v", act, ra, rb)
			}
		}
		for k := range 2 {
			if !slices.Equal(a.Chains()[k].Map(), b.Chains()[k].Map()) {
				t.Error("maps")
			}
		}
	}
}
