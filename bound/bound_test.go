package bound_test

import (
	"fmt"
	"math"
	"slices"
	"testing"

	"carrack/api"
	"carrack/bound"
	"carrack/model"
	"carrack/world"
)

var config = api.Config{Sector: 128, Sectors: 64, Table: 4, Batch: 8, Scan: 8, Heights: [2]uint64{5, 50}, Seqs: [2]uint64{1, 10}}

func fresh(t *testing.T, c api.Config) *world.World {
	t.Helper()
	w, err := world.New(c)
	if err != api.OK {
		t.Fatal(err)
	}
	return w
}

func send(t *testing.T, w *world.World, k int, timeout uint64) api.Packet {
	t.Helper()
	r := w.Do(api.Act{Kind: api.ActSend, Chain: k, Timeout: timeout, Data: "data"})
	if r.Err != api.OK {
		t.Fatalf("send: %d", r.Err)
	}
	return api.Packet{From: k, Seq: r.Seq, Timeout: timeout, Data: "data"}
}

func commit(w *world.World) {
	w.Do(api.Act{Kind: api.ActCommit, Chain: 0})
	w.Do(api.Act{Kind: api.ActCommit, Chain: 1})
}

func heights(w *world.World) [2]uint64 {
	return [2]uint64{w.Chains()[0].Height(), w.Chains()[1].Height()}
}

// state: what has become of a packet.
func state(w *world.World, p api.Packet) int {
	for _, e := range model.Of(w.Chains()) {
		if e.Packet == p {
			return e.State
		}
	}
	return api.Unknown
}

// P24.1: how many rounds, with the document's example.
func TestRounds(t *testing.T) {
	for _, c := range [][4]int{{2, 0, 4, 18}, {0, 0, 1, 5}, {1, 1, 1, 11}, {0, 7, 40, 51}, {3, 2, 8, 29}, {1 << 20, 1 << 20, 40, 6<<20 + 44}} {
		if got, err := bound.Rounds(c[0], c[1], c[2]); got != c[3] || err != api.OK {
			t.Errorf("%v: %d, %d", c, got, err)
		}
	}
	for _, c := range [][3]int{{-1, 0, 4}, {1<<20 + 1, 0, 4}, {0, -1, 4}, {0, 1<<20 + 1, 4}, {0, 0, 0}, {0, 0, 41}, {0, 0, -1}, {math.MaxInt, 0, 4}, {0, math.MinInt, 4}, {0, 0, math.MaxInt}} {
		if got, err := bound.Rounds(c[0], c[1], c[2]); got != 0 || err != api.ErrRange {
			t.Errorf("%v: %d, %d", c, got, err)
		}
	}
}

// P24.1: what is open, and how much is behind.
func TestOpenAndBehind(t *testing.T) {
	w := fresh(t, config)
	is := func(behind int, open ...api.Packet) {
		t.Helper()
		if got := bound.Open(w); !slices.Equal(got, open) {
			t.Fatalf("open: %v, not %v", got, open)
		}
		if got := bound.Behind(w); got != behind {
			t.Fatalf("behind: %d, not %d", got, behind)
		}
	}
	is(0)
	b := send(t, w, 1, 100)
	a := send(t, w, 0, 100)
	c := send(t, w, 0, 52)
	is(0)
	commit(w)
	is(3, a, c, b)
	w.Do(api.Act{Kind: api.ActStep})
	is(0, a, c, b)
	for len(w.Flight()) > 0 {
		w.Do(api.Act{Kind: api.ActDeliver})
	}
	is(0, a, c, b)
	commit(w)
	is(3, a, b)
	w.Do(api.Act{Kind: api.ActStep})
	is(0, a, b)
	for len(w.Flight()) > 0 {
		w.Do(api.Act{Kind: api.ActDeliver})
	}
	commit(w)
	is(2)
}

// P24.1: a round is a step, all deliveries, and both commits.
func TestRound(t *testing.T) {
	w := fresh(t, config)
	p := send(t, w, 0, 100)
	q := send(t, w, 1, 100)
	want := []int{api.IsSent, api.IsRecvd, api.IsAcked, api.IsAcked}
	for i, s := range want {
		if err := bound.Round(w); err != api.OK {
			t.Fatal(err)
		}
		if state(w, p) != s || state(w, q) != s || len(w.Flight()) != 0 || heights(w) != [2]uint64{6 + uint64(i), 51 + uint64(i)} {
			t.Errorf("round %d: %d, %d, %v", i, state(w, p), state(w, q), heights(w))
		}
	}
	if len(w.State().Items) != 0 {
		t.Error(w.State())
	}
}

// P24.1: the first message is delivered first, and what chains refuse is no error.
func TestRoundDelivers(t *testing.T) {
	w := fresh(t, config)
	p := send(t, w, 0, 100)
	commit(w)
	w.Do(api.Act{Kind: api.ActStep})
	w.Do(api.Act{Kind: api.ActTwice, N: 1})
	w.Do(api.Act{Kind: api.ActTwice, N: 0})
	if err := bound.Round(w); err != api.OK || state(w, p) != api.IsRecvd || len(w.Flight()) != 0 {
		t.Error(err, state(w, p))
	}
}

// P24.1: a round whose step tells an error goes on to its end.
func TestRoundOfAStepThatFails(t *testing.T) {
	w := fresh(t, config)
	p := send(t, w, 0, 100)
	commit(w)
	w.Do(api.Act{Kind: api.ActStep})
	w.Do(api.Act{Kind: api.ActFail, N: 1})
	commit(w)
	if err := bound.Round(w); err != api.ErrIO || len(w.Flight()) != 0 || state(w, p) != api.IsRecvd || heights(w) != [2]uint64{8, 53} {
		t.Error(err, state(w, p), heights(w))
	}
	if err := bound.Round(w); err != api.ErrHalt || heights(w) != [2]uint64{9, 54} {
		t.Error(err, heights(w))
	}
}

// P24.1: a commit that is refused is no error of a round.
func TestRoundAtTheGreatest(t *testing.T) {
	c := config
	c.Heights = [2]uint64{math.MaxUint64, 50}
	w := fresh(t, c)
	if err := bound.Round(w); err != api.OK || heights(w) != [2]uint64{math.MaxUint64, 51} {
		t.Error(err, heights(w))
	}
}

// P24.2: rounds, as long as something is open or behind.
func TestSettle(t *testing.T) {
	w := fresh(t, config)
	settle := func(rounds, want int, err api.Errno) {
		t.Helper()
		if got, e := bound.Settle(w, rounds); got != want || e != err {
			t.Fatalf("%d rounds: %d, %d, not %d, %d", rounds, got, e, want, err)
		}
	}
	settle(9, 0, api.OK)
	if heights(w) != [2]uint64{5, 50} {
		t.Error("a round without need")
	}
	p := send(t, w, 0, 100)
	settle(9, 0, api.OK)
	commit(w)
	settle(0, 0, api.OK)
	settle(-1, 0, api.OK)
	settle(math.MinInt, 0, api.OK)
	settle(1, 1, api.OK)
	if state(w, p) != api.IsRecvd {
		t.Error(state(w, p))
	}
	settle(math.MaxInt, 2, api.OK)
	if state(w, p) != api.IsAcked || bound.Behind(w) != 0 {
		t.Error(state(w, p), bound.Behind(w))
	}
	settle(9, 0, api.OK)
	send(t, w, 1, 100)
	commit(w)
	w.Do(api.Act{Kind: api.ActFail, N: 5})
	settle(9, 2, api.ErrIO)
	settle(9, 1, api.ErrHalt)
	w.Do(api.Act{Kind: api.ActCrash})
	settle(9, 2, api.OK)
	if len(bound.Open(w)) != 0 {
		t.Error(bound.Open(w))
	}
}

// The document's example.
func TestExample(t *testing.T) {
	w := fresh(t, config)
	send(t, w, 0, 100)
	send(t, w, 1, 100)
	commit(w)
	w.Do(api.Act{Kind: api.ActStep})
	rounds, err := bound.Rounds(len(bound.Open(w)), bound.Behind(w), config.Table)
	if rounds != 18 || err != api.OK {
		t.Error(rounds, err)
	}
	if n, err := bound.Settle(w, rounds); n > 18 || err != api.OK || len(bound.Open(w)) != 0 {
		t.Error(n, err, bound.Open(w))
	}
}

// draws is a row of numbers that hangs on its seed alone.
type draws uint64

func (d *draws) draw(n int) int {
	*d = *d*6364136223846793005 + 1442695040888963407
	return int(uint64(*d)>>33) % n
}

// config: whatever may be, with a disk that has room.
func (d *draws) config() api.Config {
	return api.Config{
		Sector: 64 + d.draw(449), Sectors: 250 + d.draw(50), Table: 1 + d.draw(40), Batch: 2 + d.draw(15), Scan: 1 + d.draw(16),
		Heights: [2]uint64{uint64(d.draw(30)), uint64(d.draw(30))}, Seqs: [2]uint64{uint64(1 + d.draw(9)), uint64(1 + d.draw(9))},
	}
}

// act: whatever a world may be asked, but for sends.
func (d *draws) act(w *world.World) api.Act {
	switch d.draw(12) {
	case 0, 1:
		return api.Act{Kind: api.ActCommit, Chain: d.draw(2)}
	case 2, 3, 4:
		return api.Act{Kind: api.ActStep}
	case 5:
		return api.Act{Kind: api.ActDrop, N: d.draw(3)}
	case 6:
		return api.Act{Kind: api.ActTwice, N: d.draw(3)}
	case 7:
		if l := w.Flight(); len(l) > 0 {
			m := l[d.draw(len(l))]
			m.Kind = d.draw(6)
			m.Packet = l[d.draw(len(l))].Packet
			return api.Act{Kind: api.ActForge, Message: m}
		}
	case 8:
		return api.Act{Kind: api.ActFail, N: d.draw(6)}
	case 9:
		a := api.Act{Kind: api.ActCrash}
		for range d.draw(5) {
			a.Writes = append(a.Writes, api.Write{Lasts: d.draw(2) == 0, Torn: d.draw(100)})
		}
		return a
	}
	return api.Act{Kind: api.ActDeliver, N: d.draw(2)}
}

// calm: the faults are over, and both chains are committed.
func calm(t *testing.T, w *world.World) {
	t.Helper()
	w.Do(api.Act{Kind: api.ActFail})
	if w.Down() {
		w.Do(api.Act{Kind: api.ActCrash})
	}
	if w.Down() {
		t.Fatal("down behind a crash")
	}
	commit(w)
}

// P24.3 (P0.4): whatever went before, all is settled behind so many rounds; none of them was one too few.
func TestAllIsSettled(t *testing.T) {
	states := [5]int{}
	looks := 0
	for seed := range 150 {
		d := draws(seed)
		c := d.config()
		w := fresh(t, c)
		for range 5 {
			for range d.draw(60) {
				k := d.draw(2)
				if d.draw(5) == 0 && len(bound.Open(w)) < c.Table {
					w.Do(api.Act{Kind: api.ActSend, Chain: k, Timeout: w.Chains()[1-k].Height() + uint64(d.draw(40)), Data: fmt.Sprint(seed)})
				}
				w.Do(d.act(w))
			}
			calm(t, w)
			open := bound.Open(w)
			if len(open) > c.Table {
				continue
			}
			looks++
			rounds, err := bound.Rounds(len(open), bound.Behind(w), c.Table)
			if err != api.OK {
				t.Fatal(err)
			}
			n, err := bound.Settle(w, rounds)
			if err != api.OK || n > rounds {
				t.Fatalf("seed %d: %d rounds, %d", seed, n, err)
			}
			for _, p := range open {
				s := state(w, p)
				states[s]++
				if s != api.IsAcked && s != api.IsTimed || s != api.IsAcked && heights(w)[1-p.From]+1 < p.Timeout {
					t.Fatalf("seed %d, behind %d of %d rounds: %+v is %d", seed, n, rounds, p, s)
				}
			}
			if len(bound.Open(w)) != 0 || bound.Behind(w) != 0 {
				t.Fatalf("seed %d: something is left", seed)
			}
		}
	}
	if states[api.IsAcked] < 300 || states[api.IsTimed] < 100 || looks < 500 {
		t.Errorf("too little was done: %v, %d", states, looks)
	}
}

// P24.4 (P0.4): crashes, drops and doubles change no outcome.
func TestCrashesChangeNoOutcome(t *testing.T) {
	for seed := range 40 {
		d := draws(1000 + seed)
		c := d.config()
		c.Table = 10 + d.draw(31)
		rough, smooth := fresh(t, c), fresh(t, c)
		var sent []api.Packet
		for range 10 {
			k := d.draw(2)
			p := send(t, rough, k, 100000)
			if q := send(t, smooth, k, 100000); q != p {
				t.Fatal(p, q)
			}
			sent = append(sent, p)
			for range d.draw(20) {
				rough.Do(d.act(rough))
			}
			commit(smooth)
		}
		for _, w := range []*world.World{rough, smooth} {
			calm(t, w)
			rounds, _ := bound.Rounds(len(bound.Open(w)), bound.Behind(w), c.Table)
			if _, err := bound.Settle(w, rounds); err != api.OK {
				t.Fatal(err)
			}
			for _, p := range sent {
				if state(w, p) != api.IsAcked {
					t.Fatalf("seed %d: %+v is %d", seed, p, state(w, p))
				}
			}
		}
	}
}
