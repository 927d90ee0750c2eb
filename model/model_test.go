package model_test

import (
	"fmt"
	"math"
	"slices"
	"testing"

	"carrack/api"
	"carrack/chain"
	"carrack/model"
	"carrack/world"
)

func pack(from int, seq uint64) api.Packet {
	return api.Packet{From: from, Seq: seq, Timeout: 9, Data: "data"}
}

func entry(seq uint64, state int) model.Entry {
	return model.Entry{Packet: pack(0, seq), State: state}
}

// P22.1: what follows what, and what is to be reached.
func TestFollowsAndReached(t *testing.T) {
	follow := map[[2]int]bool{{0, 1}: true, {1, 2}: true, {1, 4}: true, {2, 3}: true}
	reach := map[[2]int]bool{{0, 1}: true, {0, 2}: true, {0, 3}: true, {0, 4}: true, {1, 2}: true, {1, 3}: true, {1, 4}: true, {2, 3}: true}
	for a := -2; a < 8; a++ {
		for b := -2; b < 8; b++ {
			if got := model.Follows(a, b); got != follow[[2]int{a, b}] {
				t.Errorf("follows %d, %d: %v", a, b, got)
			}
			if got := model.Reached(a, b); got != (reach[[2]int{a, b}] || a == b && a >= 0 && a < 5) {
				t.Errorf("reached %d, %d: %v", a, b, got)
			}
		}
	}
	for _, n := range []int{math.MaxInt, math.MinInt} {
		if model.Follows(n, 1) || model.Follows(0, n) || model.Reached(n, n) || model.Reached(0, n) || model.Reached(n, 1) {
			t.Errorf("%d is a state", n)
		}
	}
}

// P22.2: do entries step?
func TestStep(t *testing.T) {
	for _, c := range []struct {
		name     string
		was, now []model.Entry
		want     bool
	}{
		{"none", nil, nil, true},
		{"new ones", nil, []model.Entry{entry(1, 1), entry(2, 9)}, true},
		{"as it was", []model.Entry{entry(1, 2)}, []model.Entry{entry(1, 2)}, true},
		{"far", []model.Entry{entry(1, 1)}, []model.Entry{entry(2, 1), entry(1, 3)}, true},
		{"back", []model.Entry{entry(1, 2)}, []model.Entry{entry(1, 1)}, false},
		{"beside", []model.Entry{entry(1, 3)}, []model.Entry{entry(1, 4)}, false},
		{"received and timed out", []model.Entry{entry(1, 2)}, []model.Entry{entry(1, 4)}, false},
		{"gone", []model.Entry{entry(1, 1)}, nil, false},
		{"another one", []model.Entry{entry(1, 1)}, []model.Entry{{Packet: pack(1, 1), State: 1}}, false},
		{"of other data", []model.Entry{entry(1, 1)}, []model.Entry{{Packet: api.Packet{Seq: 1, Timeout: 9}, State: 1}}, false},
		{"the first counts, and goes", []model.Entry{entry(1, 2)}, []model.Entry{entry(1, 3), entry(1, 1)}, true},
		{"the first counts, and doesn't", []model.Entry{entry(1, 2)}, []model.Entry{entry(1, 1), entry(1, 3)}, false},
		{"the first is unknown", []model.Entry{entry(1, 1)}, []model.Entry{entry(1, 0), entry(1, 3)}, false},
		{"one of several", []model.Entry{entry(1, 1), entry(2, 3)}, []model.Entry{entry(1, 4), entry(2, 2)}, false},
		{"twice, one doesn't", []model.Entry{entry(1, 1), entry(1, 4)}, []model.Entry{entry(1, 3)}, false},
		{"twice, both do", []model.Entry{entry(1, 1), entry(1, 2)}, []model.Entry{entry(1, 3)}, true},
		{"no state", []model.Entry{entry(1, 7)}, []model.Entry{entry(1, 7)}, false},
		{"to no state", []model.Entry{entry(1, 1)}, []model.Entry{entry(1, -1)}, false},
	} {
		if got := model.Step(c.was, c.now); got != c.want {
			t.Errorf("%s: %v", c.name, got)
		}
	}
}

// P22.2: counts, and what is open.
func TestCountAndOpen(t *testing.T) {
	l := []model.Entry{entry(5, 1), entry(1, 4), entry(3, 2), entry(2, 1), entry(7, 3), entry(8, 0), entry(9, 5), entry(10, -1), entry(11, math.MaxInt), entry(12, 3), entry(13, 3)}
	if got := model.Count(l); got != [5]int{1, 2, 1, 3, 1} {
		t.Error(got)
	}
	if got := model.Open(l...); !slices.Equal(got, []api.Packet{pack(0, 5), pack(0, 3), pack(0, 2)}) {
		t.Error(got)
	}
	if model.Count(nil) != [5]int{} || len(model.Open()) != 0 {
		t.Error("of none")
	}
}

func fresh(t *testing.T, c api.Config) *world.World {
	t.Helper()
	w, err := world.New(c)
	if err != api.OK {
		t.Fatal(err)
	}
	return w
}

func send(w *world.World, k int, timeout uint64) api.Packet {
	r := w.Do(api.Act{Kind: api.ActSend, Chain: k, Timeout: timeout, Data: "data"})
	return api.Packet{From: k, Seq: r.Seq, Timeout: timeout, Data: "data"}
}

func commit(w *world.World, chains ...int) {
	for _, k := range chains {
		w.Do(api.Act{Kind: api.ActCommit, Chain: k})
	}
}

// pass: a step, and all that is on its way is delivered.
func pass(w *world.World) {
	w.Do(api.Act{Kind: api.ActStep})
	for len(w.Flight()) > 0 {
		w.Do(api.Act{Kind: api.ActDeliver})
	}
}

// P22.1: entries tell what the blocks tell, and nothing ahead of them.
func TestOf(t *testing.T) {
	w := fresh(t, api.Config{Sector: 128, Sectors: 64, Table: 8, Batch: 8, Scan: 8, Heights: [2]uint64{5, 50}, Seqs: [2]uint64{7, 1}})
	is := func(want ...model.Entry) {
		t.Helper()
		got := model.Of(w.Chains())
		if !slices.Equal(got, want) {
			t.Fatalf("%v, not %v", got, want)
		}
		if len(got) > 0 {
			got[0] = model.Entry{}
			if !slices.Equal(model.Of(w.Chains()), want) {
				t.Fatal("an answer is kept")
			}
		}
	}
	of := func(p api.Packet, state int) model.Entry { return model.Entry{Packet: p, State: state} }
	is()
	b := send(w, 1, 100)
	a := send(w, 0, 200)
	is()
	commit(w, 1)
	is(of(b, 1))
	c := send(w, 0, 52)
	commit(w, 0)
	is(of(a, 1), of(c, 1), of(b, 1))
	pass(w)
	is(of(a, 1), of(c, 1), of(b, 1))
	commit(w, 1)
	is(of(a, 2), of(c, 1), of(b, 1))
	commit(w, 0)
	is(of(a, 2), of(c, 4), of(b, 2))
	pass(w)
	is(of(a, 2), of(c, 4), of(b, 2))
	commit(w, 0)
	is(of(a, 3), of(c, 4), of(b, 2))
	commit(w, 1)
	is(of(a, 3), of(c, 4), of(b, 3))
	d := send(w, 0, 300)
	commit(w, 0)
	is(of(a, 3), of(c, 4), of(d, 1), of(b, 3))
}

// P22.1: of chains that were never asked by a world, with a first height and a greatest sequence.
func TestOfChains(t *testing.T) {
	var c [2]*chain.Chain
	for k := range c {
		var err api.Errno
		if c[k], err = chain.New(k, math.MaxUint64-3, math.MaxUint64-2); err != api.OK {
			t.Fatal(err)
		}
	}
	var want []model.Entry
	for k := range c {
		for i := range 3 {
			p, err := c[k].Send(fmt.Sprint(i), 5)
			if err == api.OK {
				want = append(want, model.Entry{Packet: p, State: api.IsSent})
			}
			c[k].Commit()
		}
	}
	if got := model.Of(c); !slices.Equal(got, want) || len(got) != 4 {
		t.Errorf("%v, not %v", got, want)
	}
}

// P22.3: between any two looks at a world the entries step.
func TestTheModel(t *testing.T) {
	for seed := range uint64(6) {
		x := seed + 1
		draw := func(n int) int {
			x = x*6364136223846793005 + 1442695040888963407
			return int(x>>33) % n
		}
		w := fresh(t, api.Config{Sector: 128, Sectors: 40, Table: 20, Batch: 2 + draw(9), Scan: 1 + draw(9), Seqs: [2]uint64{1, 1}})
		var looks [][]model.Entry
		for range 500 {
			k := draw(2)
			switch draw(12) {
			case 0:
				send(w, k, w.Chains()[1-k].Height()+uint64(draw(20)))
			case 1, 2:
				commit(w, k)
			case 3, 4:
				w.Do(api.Act{Kind: api.ActStep})
			case 5:
				w.Do(api.Act{Kind: api.ActDrop})
			case 6:
				w.Do(api.Act{Kind: api.ActTwice, N: draw(5)})
			case 7:
				if l := w.Flight(); len(l) > 0 {
					m := l[draw(len(l))]
					m.Kind = draw(5)
					w.Do(api.Act{Kind: api.ActForge, Message: m})
				}
			case 8:
				w.Do(api.Act{Kind: api.ActFail, N: draw(5)})
				w.Do(api.Act{Kind: api.ActStep})
				w.Do(api.Act{Kind: api.ActCrash, Writes: []api.Write{{Lasts: draw(2) == 0, Torn: draw(99)}, {Lasts: draw(2) == 0}}})
			default:
				w.Do(api.Act{Kind: api.ActDeliver, N: draw(2)})
			}
			now := model.Of(w.Chains())
			looks = append(looks, now)
			for _, was := range [][]model.Entry{looks[len(looks)-1], looks[draw(len(looks))], looks[max(0, len(looks)-2)]} {
				if !model.Step(was, now) {
					t.Fatalf("%v\ndoesn't step to\n%v", was, now)
				}
			}
			for i, e := range now {
				if i > 0 && (now[i-1].Packet.From > e.Packet.From || now[i-1].Packet.From == e.Packet.From && now[i-1].Packet.Seq >= e.Packet.Seq) {
					t.Fatal("not in order")
				}
			}
		}
		if n := model.Count(looks[len(looks)-1]); n[0] != 0 || n[3] == 0 || n[4] == 0 {
			t.Errorf("too little was done: %v", n)
		}
	}
}
