package bound_test

import (
	"fmt"
	"math"
	"slices"
	"testing"

	"carrack/api"
	"carrack/bound"
	"carrack/chain"
	"carrack/model"
	"carrack/packet"
	"carrack/script"
	"carrack/world"
)

// look is all that a world tells of itself.
type look struct {
	heights, next [2]uint64
	known         string
	maps          [2][]api.Pair
	state         api.Daemon
	flight        []api.Message
}

func lookAt(w *world.World) look {
	l := look{heights: heights(w), state: w.State(), flight: w.Flight()}
	for k, c := range w.Chains() {
		l.next[k], l.maps[k] = c.Next(), c.Map()
		l.known += fmt.Sprint(c.Known())
	}
	return l
}

func (l look) same(other look) bool {
	return l.heights == other.heights && l.next == other.next && l.known == other.known &&
		slices.Equal(l.maps[0], other.maps[0]) && slices.Equal(l.maps[1], other.maps[1]) &&
		sameState(l.state, other.state) && slices.Equal(l.flight, other.flight)
}

func sameState(a, b api.Daemon) bool {
	return a.Places == b.Places && slices.Equal(a.Items, b.Items)
}

// acts: so many, as they were asked of a world, with its replies.
func (d *draws) acts(t *testing.T, w *world.World, count int) ([]api.Act, []api.Reply) {
	t.Helper()
	var acts []api.Act
	var replies []api.Reply
	for range count {
		a := d.act(w)
		if d.draw(6) == 0 {
			k := d.draw(2)
			a = api.Act{Kind: api.ActSend, Chain: k, Timeout: w.Chains()[1-k].Height() + uint64(d.draw(30)), Data: fmt.Sprint(d.draw(99))}
		}
		acts = append(acts, a)
		replies = append(replies, w.Do(a))
	}
	return acts, replies
}

// P0.1: asked, run as bytes, and asked again they come to the same.
func TestBytes(t *testing.T) {
	for seed := range 6 {
		d := draws(2000 + seed)
		c := d.config()
		w := fresh(t, c)
		acts, replies := d.acts(t, w, 200)
		again := fresh(t, c)
		s, err := script.PutConfig(c)
		if err != api.OK {
			t.Fatal(err)
		}
		for i, a := range acts {
			bytes, err := script.Put(a)
			if err != api.OK {
				t.Fatalf("%+v: %d", a, err)
			}
			s += bytes
			if got := again.Do(a); script.Bytes(got) != script.Bytes(replies[i]) {
				t.Fatalf("%+v: %+v, not %+v", a, got, replies[i])
			}
		}
		if got, err := script.Play(s); err != api.OK || got != script.Bytes(replies...) {
			t.Fatalf("run as bytes: %d", err)
		}
		run, _ := script.New(s)
		for run.Left() > 0 {
			run.Step()
		}
		if !lookAt(w).same(lookAt(again)) || !lookAt(w).same(lookAt(run.World())) {
			t.Fatal("the worlds stand otherwise")
		}
	}
}

// P0.2: recovery comes to the same again, what was journalled lasts, and the bounds hold.
func TestTheJournal(t *testing.T) {
	for seed := range 30 {
		d := draws(3000 + seed)
		c := d.config()
		c.Sectors = 16 + d.draw(30)
		w := fresh(t, c)
		for range 150 {
			d.acts(t, w, 1)
			calls := 0
			if d.draw(3) == 0 {
				calls = 1 + d.draw(9)
			}
			w.Do(api.Act{Kind: api.ActFail, N: calls})
			was, flying := w.State(), len(w.Flight())
			down := w.Down()
			r := w.Do(api.Act{Kind: api.ActStep})
			if down != (r.Err == api.ErrHalt) || r.Count != len(w.Flight())-flying || r.Count > 2*c.Batch {
				t.Fatalf("%+v, %d messages", r, len(w.Flight())-flying)
			}
			var to [2]int
			for _, m := range w.Flight()[flying:] {
				to[m.To]++
			}
			if to[0] > c.Batch || to[1] > c.Batch || len(w.State().Items) > c.Table {
				t.Fatalf("%v messages, %d items", to, len(w.State().Items))
			}
			now := w.State()
			if r.Err == api.ErrHalt {
				now = was
			}
			halted := w.Down()
			w.Do(api.Act{Kind: api.ActCrash})
			if got := w.State(); w.Down() || !halted && !sameState(got, now) {
				t.Fatalf("behind a crash %v, not %v", got, now)
			}
			first := w.State()
			w.Do(api.Act{Kind: api.ActCrash, Writes: []api.Write{{Lasts: true}, {Lasts: true, Torn: 9}}})
			if got := w.State(); !sameState(got, first) {
				t.Fatalf("behind another crash %v, not %v", got, first)
			}
		}
	}
}

// P0.2: what is pending is just what was sent in a block, and stands, once both logs are read.
func TestPending(t *testing.T) {
	whole := 0
	for seed := range 8 {
		d := draws(4000 + seed)
		w := fresh(t, d.config())
		for range 60 {
			d.acts(t, w, 5)
			got, ok := w.Rescan()
			if !ok {
				continue
			}
			whole++
			var want []api.Item
			for _, e := range model.Of(w.Chains()) {
				v, there := w.Chains()[e.Packet.From].Get(packet.Sent(e.Packet.Seq))
				if !there || v != packet.Commitment(e.Packet) {
					continue
				}
				stage := api.ToRecv
				if e.State == api.IsRecvd {
					stage = api.ToAck
				}
				want = append(want, api.Item{Packet: e.Packet, Stage: stage})
			}
			if !slices.Equal(got.Items, want) {
				t.Fatalf("seed %d: %v, not %v", seed, got.Items, want)
			}
		}
	}
	if whole < 300 {
		t.Errorf("too little was done: %d", whole)
	}
}

// outcomes: how often a packet was received, answered, and timed out, as all notes tell.
func outcomes(c [2]*chain.Chain) map[api.Packet]*[5]int {
	all := map[api.Packet]*[5]int{}
	for _, one := range c {
		l, _ := one.Log(one.First(), math.MaxInt)
		for _, n := range l {
			if all[n.Packet] == nil {
				all[n.Packet] = &[5]int{}
			}
			all[n.Packet][n.Kind]++
		}
	}
	return all
}

// P0.3: at the greatest heights and sequences too nothing wraps, and nothing comes twice.
func TestTheChains(t *testing.T) {
	refused, over := 0, 0
	for seed := range 40 {
		d := draws(5000 + seed)
		c := d.config()
		if seed%2 == 0 {
			c.Heights = [2]uint64{math.MaxUint64 - uint64(d.draw(40)), math.MaxUint64 - uint64(d.draw(40))}
			c.Seqs = [2]uint64{math.MaxUint64 - uint64(d.draw(9)), math.MaxUint64 - uint64(d.draw(40))}
		}
		w := fresh(t, c)
		for range 250 {
			before := lookAt(w)
			acts, replies := d.acts(t, w, 1)
			a, r := acts[0], replies[0]
			after := lookAt(w)
			if after.heights[0] < before.heights[0] || after.heights[1] < before.heights[1] || after.next[0] < before.next[0] || after.next[1] < before.next[1] {
				t.Fatalf("%+v: %v, %v", a, after.heights, after.next)
			}
			if a.Kind == api.ActForge && (r.Err != api.OK || r.Codes[0] != api.OK) {
				refused++
				if !before.same(after) {
					t.Fatalf("%+v: a forged message that is refused has changed something", a)
				}
			}
			if r.Err == api.ErrOver {
				over++
				if !before.same(after) {
					t.Fatalf("%+v: over, but something has changed", a)
				}
			}
			for p, o := range outcomes(w.Chains()) {
				once := o[api.Sent] == 1 && o[api.Received] <= 1 && o[api.Acked]+o[api.TimedOut] <= 1
				if !once || o[api.Received] == 1 && o[api.TimedOut] == 1 || o[api.Acked] > o[api.Received] {
					t.Fatalf("%+v: %v", p, *o)
				}
			}
		}
	}
	if refused < 200 || over < 50 {
		t.Errorf("too little was done: %d, %d", refused, over)
	}
}

// P0.4: in so many rounds without faults all is answered, or timed out where its Timeout was reached.
func TestTheEnd(t *testing.T) {
	for seed := range 20 {
		d := draws(6000 + seed)
		c := d.config()
		c.Table = 40
		w := fresh(t, c)
		var long, short []api.Packet
		for range 8 {
			k := d.draw(2)
			long = append(long, send(t, w, k, 1000000))
			short = append(short, send(t, w, k, w.Chains()[1-k].Height()+1))
			commit(w)
		}
		rounds, err := bound.Rounds(len(bound.Open(w)), bound.Behind(w), c.Table)
		if err != api.OK {
			t.Fatal(err)
		}
		if n, err := bound.Settle(w, rounds); err != api.OK || n > rounds {
			t.Fatal(n, err)
		}
		for i := range long {
			if state(w, long[i]) != api.IsAcked || state(w, short[i]) != api.IsTimed {
				t.Fatalf("seed %d: %d, %d", seed, state(w, long[i]), state(w, short[i]))
			}
		}
	}
}
