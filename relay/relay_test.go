package relay_test

import (
	"fmt"
	"math"
	"slices"
	"strings"
	"testing"

	"carrack/api"
	"carrack/chain"
	"carrack/packet"
	"carrack/relay"
)

const most = math.MaxUint64

func both(t *testing.T, a, b uint64) [2]*chain.Chain {
	t.Helper()
	var c [2]*chain.Chain
	for k, h := range []uint64{a, b} {
		var err api.Errno
		if c[k], err = chain.New(k, h, 1); err != api.OK {
			t.Fatal(err)
		}
	}
	return c
}

func must(t *testing.T, err api.Errno) {
	t.Helper()
	if err != api.OK {
		t.Fatalf("error %d", err)
	}
}

func send(t *testing.T, c *chain.Chain, timeout uint64) api.Packet {
	t.Helper()
	p, err := c.Send("data", timeout)
	must(t, err)
	return p
}

func commit(t *testing.T, l ...*chain.Chain) {
	t.Helper()
	for _, c := range l {
		_, err := c.Commit()
		must(t, err)
	}
}

// item is one of either stage: what is submitted doesn't hang on it.
func item(p api.Packet) api.Item {
	return api.Item{Packet: p, Stage: 1 + int(p.Seq%2)}
}

func prove(t *testing.T, c *chain.Chain, key string) string {
	t.Helper()
	s, err := c.Prove(key, c.Height())
	must(t, err)
	return s
}

func submits(t *testing.T, p api.Packet, c [2]*chain.Chain, want api.Message) {
	t.Helper()
	for stage := range 4 {
		if m, ok := relay.Submit(api.Item{Packet: p, Stage: stage}, c); !ok || m != want {
			t.Fatalf("%+v, %v, not %+v", m, ok, want)
		}
	}
}

func nothing(t *testing.T, p api.Packet, c [2]*chain.Chain) {
	t.Helper()
	if m, ok := relay.Submit(item(p), c); ok || m != (api.Message{}) {
		t.Fatalf("%+v", m)
	}
}

// through: a message's update and the message are delivered.
func through(t *testing.T, m api.Message, c [2]*chain.Chain) {
	t.Helper()
	if h, ok := c[m.To].From(m.Height); !ok || h != m.Height {
		must(t, relay.Deliver(api.Message{Kind: api.MsgUpdate, To: m.To, Height: m.Height}, c))
	}
	must(t, relay.Deliver(m, c))
}

// P19.1: from the sending to the answer, both ways.
func TestSubmitToTheAnswer(t *testing.T) {
	for k := range 2 {
		c := both(t, 5, 50)
		one, other := c[k], c[1-k]
		p := send(t, one, 100)
		nothing(t, p, c)
		commit(t, one)
		recv := api.Message{Kind: api.MsgRecv, To: 1 - k, Height: one.Height(), Packet: p, Proof: prove(t, one, packet.Sent(1))}
		submits(t, p, c, recv)
		commit(t, one)
		recv.Height++
		submits(t, p, c, recv)
		through(t, recv, c)
		nothing(t, p, c)
		commit(t, other)
		ack := api.Message{Kind: api.MsgAck, To: k, Height: other.Height(), Packet: p, Proof: prove(t, other, packet.Answered(1))}
		submits(t, p, c, ack)
		for other.Height() < 120 {
			commit(t, other)
		}
		ack.Height = other.Height()
		submits(t, p, c, ack)
		through(t, ack, c)
		nothing(t, p, c)
		commit(t, one)
		nothing(t, p, c)
	}
}

// P19.1: from which height on a packet is timed out.
func TestSubmitTimeout(t *testing.T) {
	for k := range 2 {
		c := both(t, 30, 30)
		one, other := c[k], c[1-k]
		p := send(t, one, 40)
		for other.Height() < 38 {
			commit(t, other)
		}
		nothing(t, p, c)
		commit(t, one)
		submits(t, p, c, api.Message{Kind: api.MsgRecv, To: 1 - k, Height: one.Height(), Packet: p, Proof: prove(t, one, packet.Sent(1))})
		commit(t, other)
		timeout := api.Message{Kind: api.MsgTimeout, To: k, Height: 39, Packet: p, Proof: prove(t, other, packet.Received(1))}
		submits(t, p, c, timeout)
		commit(t, other)
		timeout.Height = 40
		submits(t, p, c, timeout)
		through(t, timeout, c)
		nothing(t, p, c)
	}
	c := both(t, 30, 39)
	p := send(t, c[0], 40)
	submits(t, p, c, api.Message{Kind: api.MsgTimeout, To: 0, Height: 39, Packet: p, Proof: prove(t, c[1], packet.Received(1))})
}

// P19.1: at the greatest heights.
func TestSubmitAtTheGreatest(t *testing.T) {
	c := both(t, 3, most)
	p := send(t, c[0], most)
	submits(t, p, c, api.Message{Kind: api.MsgTimeout, To: 0, Height: most, Packet: p, Proof: prove(t, c[1], packet.Received(1))})
	c = both(t, 3, most-1)
	p = send(t, c[0], most)
	submits(t, p, c, api.Message{Kind: api.MsgTimeout, To: 0, Height: most - 1, Packet: p, Proof: prove(t, c[1], packet.Received(1))})
	c = both(t, 3, most-2)
	p = send(t, c[0], most)
	nothing(t, p, c)
	commit(t, c[0])
	submits(t, p, c, api.Message{Kind: api.MsgRecv, To: 1, Height: 4, Packet: p, Proof: prove(t, c[0], packet.Sent(1))})
}

// P19.1: packets that don't stand, or may not be.
func TestSubmitNothing(t *testing.T) {
	c := both(t, 5, 50)
	p := send(t, c[0], 100)
	commit(t, c[0], c[1])
	for _, change := range []func(*api.Packet){
		func(q *api.Packet) { q.From = 1 }, func(q *api.Packet) { q.From = 2 }, func(q *api.Packet) { q.From = -1 },
		func(q *api.Packet) { q.Seq = 2 }, func(q *api.Packet) { q.Seq = 0 }, func(q *api.Packet) { q.Timeout = 99 },
		func(q *api.Packet) { q.Timeout = 0 }, func(q *api.Packet) { q.Data = "Data" }, func(q *api.Packet) { q.Data = strings.Repeat("d", 65) },
		func(q *api.Packet) { *q = api.Packet{} }, func(q *api.Packet) { q.From = math.MaxInt },
	} {
		q := p
		change(&q)
		nothing(t, q, c)
		if plan := relay.Plan([]api.Item{item(q)}, c, 16); len(plan[0])+len(plan[1]) != 0 {
			t.Errorf("%v: %v", q, plan)
		}
	}
}

// The document's example.
func TestPlanExample(t *testing.T) {
	c := both(t, 5, 50)
	p := send(t, c[0], 100)
	commit(t, c[0])
	plan := relay.Plan([]api.Item{item(p)}, c, 2)
	m, _ := relay.Submit(item(p), c)
	if len(plan[0]) != 0 || !slices.Equal(plan[1], []api.Message{{Kind: api.MsgUpdate, To: 1, Height: 6}, m}) {
		t.Errorf("%+v", plan)
	}
	for _, batch := range []int{1, 0, -1, math.MinInt} {
		if plan := relay.Plan([]api.Item{item(p)}, c, batch); len(plan[0])+len(plan[1]) != 0 {
			t.Errorf("batch %d: %+v", batch, plan)
		}
	}
	must(t, relay.Deliver(plan[1][0], c))
	for batch := 1; batch < 4; batch++ {
		if plan := relay.Plan([]api.Item{item(p)}, c, batch); len(plan[0]) != 0 || !slices.Equal(plan[1], []api.Message{m}) {
			t.Errorf("known, batch %d: %+v", batch, plan)
		}
	}
	if plan := relay.Plan([]api.Item{item(p)}, c, 0); len(plan[0])+len(plan[1]) != 0 {
		t.Errorf("known, batch 0: %+v", plan)
	}
	if plan := relay.Plan(nil, c, 9); len(plan[0])+len(plan[1]) != 0 {
		t.Errorf("of nothing: %+v", plan)
	}
}

// P19.1: a higher height that is known is no reason to leave the update away; so is none at height 0.
func TestPlanUpdates(t *testing.T) {
	c := both(t, 5, 0)
	p, q := send(t, c[0], 100), send(t, c[1], 100)
	commit(t, c[0])
	must(t, c[1].Update(7, strings.Repeat("r", 32)))
	must(t, c[1].Update(5, strings.Repeat("r", 32)))
	plan := relay.Plan([]api.Item{item(p), item(q)}, c, 9)
	if len(plan[1]) != 2 || plan[1][0] != (api.Message{Kind: api.MsgUpdate, To: 1, Height: 6}) || len(plan[0]) != 0 {
		t.Errorf("%+v", plan)
	}
	c = both(t, 5, 0)
	p = send(t, c[0], 1)
	plan = relay.Plan([]api.Item{item(p)}, c, 9)
	if len(plan[0]) != 2 || plan[0][0] != (api.Message{Kind: api.MsgUpdate, To: 0}) || plan[0][1].Kind != api.MsgTimeout {
		t.Errorf("%+v", plan)
	}
}

// mixed: chains whose packets wait for all kinds of things.
func mixed(t *testing.T) ([2]*chain.Chain, []api.Item) {
	t.Helper()
	c := both(t, 5, 5)
	var l []api.Item
	for range 4 {
		for k := range 2 {
			l = append(l, item(send(t, c[k], 100)), item(send(t, c[k], 9)))
		}
	}
	commit(t, c[0], c[1])
	for _, i := range l[:6] {
		if i.Packet.Timeout == 100 {
			m, ok := relay.Submit(i, c)
			if !ok {
				t.Fatal("nothing is submitted")
			}
			through(t, m, c)
		}
	}
	commit(t, c[0], c[1])
	commit(t, c[0], c[1])
	commit(t, c[0], c[1])
	for k := range 2 {
		l = append(l, item(send(t, c[k], 200)))
	}
	commit(t, c[0])
	return c, l
}

// P19.1 and P19.3: plans of all batches, against the document's words; delivered each one goes.
func TestPlan(t *testing.T) {
	kinds := map[int]int{}
	for batch := -1; batch < 20; batch++ {
		for known := range 4 {
			c, l := mixed(t)
			for k := range 2 {
				if known>>k&1 == 1 {
					must(t, relay.Deliver(api.Message{Kind: api.MsgUpdate, To: k, Height: c[1-k].Height()}, c))
				}
			}
			var want [2][]api.Message
			var closed, updated [2]bool
			for _, i := range l {
				m, ok := relay.Submit(i, c)
				if !ok || closed[m.To] {
					continue
				}
				var add []api.Message
				if known>>m.To&1 == 0 && !updated[m.To] {
					add = append(add, api.Message{Kind: api.MsgUpdate, To: m.To, Height: c[1-m.To].Height()})
				}
				add = append(add, m)
				if len(want[m.To])+len(add) > max(batch, 0) {
					closed[m.To] = true
					continue
				}
				updated[m.To] = true
				want[m.To] = append(want[m.To], add...)
			}
			before := slices.Clone(l)
			plan := relay.Plan(l, c, batch)
			if !slices.Equal(plan[0], want[0]) || !slices.Equal(plan[1], want[1]) {
				t.Fatalf("batch %d, known %d:\n%+v\nnot\n%+v", batch, known, plan, want)
			}
			if !slices.Equal(l, before) {
				t.Error("what was handed in is changed")
			}
			for k, list := range plan {
				if len(list) > max(batch, 0) {
					t.Errorf("a list of %d, batch %d", len(list), batch)
				}
				for n, m := range list {
					kinds[m.Kind]++
					if err := relay.Deliver(m, c); err != api.OK || m.To != k {
						t.Errorf("batch %d, known %d, list %d, %d: %d", batch, known, k, n, err)
					}
				}
			}
		}
	}
	for kind := api.MsgUpdate; kind <= api.MsgTimeout; kind++ {
		if kinds[kind] == 0 {
			t.Errorf("no message of kind %d was planned", kind)
		}
	}
}

// P19.1: a list that is full gets no more, even if less would fit.
func TestPlanStaysFull(t *testing.T) {
	c := both(t, 5, 5)
	var l []api.Item
	for range 5 {
		l = append(l, item(send(t, c[0], 100)), item(send(t, c[1], 100)))
	}
	commit(t, c[0], c[1])
	plan := relay.Plan(l, c, 3)
	for k, list := range plan {
		if len(list) != 3 || list[0].Kind != api.MsgUpdate || list[1].Packet.Seq != 1 || list[2].Packet.Seq != 2 || list[1].Packet.From == k {
			t.Errorf("list %d: %+v", k, list)
		}
	}
	plan[0][0] = api.Message{}
	_ = append(plan[0][:1], api.Message{})
	if plan[1][0].Kind != api.MsgUpdate {
		t.Error("lists share memory")
	}
	if again := relay.Plan(l, c, 3); again[0][0].Kind != api.MsgUpdate {
		t.Error("plans share memory")
	}
}

// P19.2: what is delivered where, and with what error.
func TestDeliver(t *testing.T) {
	c := both(t, 5, 50)
	p := send(t, c[0], 100)
	q := send(t, c[0], 52)
	commit(t, c[0])
	for _, m := range []api.Message{{}, {Kind: -1}, {Kind: 5}, {Kind: math.MaxInt, To: 1}} {
		if err := relay.Deliver(m, c); err != api.ErrRange {
			t.Errorf("%+v: %d", m, err)
		}
	}
	for kind := api.MsgUpdate; kind <= api.MsgTimeout; kind++ {
		for _, to := range []int{-1, 2, math.MaxInt, math.MinInt} {
			if err := relay.Deliver(api.Message{Kind: kind, To: to, Height: 6, Packet: p}, c); err != api.ErrRange {
				t.Errorf("kind %d to %d: %d", kind, to, err)
			}
		}
	}
	update := func(to int, h uint64, want api.Errno) {
		t.Helper()
		if err := relay.Deliver(api.Message{Kind: api.MsgUpdate, To: to, Height: h}, c); err != want {
			t.Errorf("update to %d of %d: %d, not %d", to, h, err, want)
		}
	}
	update(1, 7, api.ErrNone)
	update(1, 4, api.ErrNone)
	update(1, 6, api.OK)
	update(1, 6, api.ErrTwice)
	update(1, 5, api.OK)
	update(0, 6, api.ErrNone)
	update(0, 50, api.OK)
	if !slices.Equal(c[1].Known(), []uint64{5, 6}) || !slices.Equal(c[0].Known(), []uint64{50}) {
		t.Error(c[0].Known(), c[1].Known())
	}
	proof := prove(t, c[0], packet.Sent(1))
	deliver := func(m api.Message, want api.Errno) {
		t.Helper()
		if err := relay.Deliver(m, c); err != want {
			t.Errorf("%+v: %d, not %d", m, err, want)
		}
	}
	recv := api.Message{Kind: api.MsgRecv, To: 1, Height: 6, Packet: p, Proof: proof}
	for _, change := range []struct {
		what func(*api.Message)
		want api.Errno
	}{
		{func(m *api.Message) { m.To = 0 }, api.ErrRange},
		{func(m *api.Message) { m.Height = 7 }, api.ErrEarly},
		{func(m *api.Message) { m.Height = 5 }, api.ErrProof},
		{func(m *api.Message) { m.Proof = "" }, api.ErrProof},
		{func(m *api.Message) { m.Packet.Data = "x" }, api.ErrProof},
		{func(m *api.Message) {}, api.OK},
		{func(m *api.Message) {}, api.ErrTwice},
	} {
		m := recv
		change.what(&m)
		deliver(m, change.want)
	}
	commit(t, c[1])
	update(0, 51, api.OK)
	ack := api.Message{Kind: api.MsgAck, To: 0, Height: 51, Packet: p, Proof: prove(t, c[1], packet.Answered(1))}
	timeout := api.Message{Kind: api.MsgTimeout, To: 0, Height: 51, Packet: q, Proof: prove(t, c[1], packet.Received(2))}
	wrong := ack
	wrong.Kind = api.MsgTimeout
	deliver(wrong, api.ErrEarly)
	wrong = timeout
	wrong.Kind = api.MsgAck
	deliver(wrong, api.ErrProof)
	deliver(ack, api.OK)
	deliver(ack, api.ErrNone)
	deliver(timeout, api.OK)
	deliver(timeout, api.ErrNone)
}

// P19.3: rounds of plans, delivered right away, whatever is sent and committed between.
func TestPlansGo(t *testing.T) {
	x := uint32(11)
	draw := func(n int) int {
		x = x*1664525 + 1013904223
		return int(x>>16) % n
	}
	c := both(t, 3, 8)
	var l []api.Item
	for i := range 150 {
		k := draw(2)
		if p, err := c[k].Send(fmt.Sprint(i), c[1-k].Height()+uint64(draw(20))); err == api.OK {
			l = append(l, item(p))
		}
		for k := range 2 {
			if draw(2) == 0 {
				commit(t, c[k])
			}
		}
		if draw(3) > 0 {
			continue
		}
		for _, list := range relay.Plan(l[max(0, len(l)-40):], c, 1+draw(16)) {
			for _, m := range list {
				must(t, relay.Deliver(m, c))
			}
		}
	}
}
