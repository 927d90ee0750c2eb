package chain_test

import (
	"fmt"
	"math"
	"slices"
	"strings"
	"testing"

	"carrack/api"
	"carrack/chain"
	"carrack/merkle"
	"carrack/packet"
	"carrack/proof"
)

const most = math.MaxUint64

func fresh(t *testing.T, id int, height, seq uint64) *chain.Chain {
	t.Helper()
	c, err := chain.New(id, height, seq)
	if err != api.OK || c == nil {
		t.Fatalf("new: %d", err)
	}
	return c
}

func both(t *testing.T, a, b uint64) [2]*chain.Chain {
	return [2]*chain.Chain{fresh(t, 0, a, 1), fresh(t, 1, b, 1)}
}

func send(t *testing.T, c *chain.Chain, data string, timeout uint64) api.Packet {
	t.Helper()
	p, err := c.Send(data, timeout)
	if err != api.OK {
		t.Fatalf("send: %d", err)
	}
	return p
}

func commit(t *testing.T, c *chain.Chain) uint64 {
	t.Helper()
	before := c.Height()
	h, err := c.Commit()
	if err != api.OK || h != before+1 || c.Height() != h {
		t.Fatalf("commit: %d, %d", h, err)
	}
	return h
}

// update: chain k knows the other one's last block; its height.
func update(t *testing.T, c [2]*chain.Chain, k int) uint64 {
	t.Helper()
	h := c[1-k].Height()
	root, err := c[1-k].Root(h)
	if err != api.OK {
		t.Fatalf("root: %d", err)
	}
	if err := c[k].Update(h, root); err != api.OK {
		t.Fatalf("update: %d", err)
	}
	return h
}

func prove(t *testing.T, c *chain.Chain, key string, height uint64) string {
	t.Helper()
	s, err := c.Prove(key, height)
	if err != api.OK {
		t.Fatalf("prove: %d", err)
	}
	return s
}

func want(t *testing.T, name string, got, want api.Errno) {
	t.Helper()
	if got != want {
		t.Errorf("%s: %d, not %d", name, got, want)
	}
}

func has(c *chain.Chain, key string) bool {
	_, ok := c.Get(key)
	return ok
}

// all: what a chain's blocks tell.
func all(c *chain.Chain) []api.Note {
	l, _ := c.Log(c.First(), math.MaxInt)
	return l
}

// P13.1: which chains there are.
func TestNew(t *testing.T) {
	for _, c := range []struct {
		id  int
		seq uint64
	}{{-1, 1}, {2, 1}, {0, 0}, {1, 0}, {math.MinInt, 1}, {math.MaxInt, 0}} {
		if got, err := chain.New(c.id, 5, c.seq); err != api.ErrRange || got != nil {
			t.Errorf("%v: %d", c, err)
		}
	}
	for _, h := range []uint64{0, 5, most} {
		for id := range 2 {
			c := fresh(t, id, h, 7)
			if c.Height() != h || c.Next() != 7 || len(c.Known()) != 0 || len(c.Map()) != 0 || c.First() != (api.Place{Height: h}) {
				t.Errorf("%d, %d", id, h)
			}
			if root, err := c.Root(h); err != api.OK || root != merkle.Root(nil) {
				t.Errorf("root: %d", err)
			}
			if _, ok := c.From(0); ok {
				t.Error("the client knows something")
			}
		}
	}
}

// P13.1: what is sent.
func TestSend(t *testing.T) {
	for id := range 2 {
		c := fresh(t, id, 5, 41)
		for i, data := range []string{"", "hello", strings.Repeat("d", 64)} {
			p := send(t, c, data, uint64(100+i))
			if p != (api.Packet{From: id, Seq: uint64(41 + i), Timeout: uint64(100 + i), Data: data}) || c.Next() != uint64(42+i) {
				t.Errorf("%v, next %d", p, c.Next())
			}
			if v, ok := c.Get(packet.Sent(p.Seq)); !ok || v != packet.Commitment(p) {
				t.Error("the commitment doesn't stand under Sent")
			}
		}
		if len(c.Map()) != 3 || len(all(c)) != 0 {
			t.Error("noted ahead of the block")
		}
		commit(t, c)
		for i, n := range all(c) {
			if n.Kind != api.Sent || n.Packet.Seq != uint64(41+i) || n.Packet.From != id {
				t.Errorf("note %d: %v", i, n)
			}
		}
	}
}

// P13.1: what isn't sent, and the order of errors.
func TestSendRefused(t *testing.T) {
	long := strings.Repeat("d", 65)
	c := fresh(t, 0, 5, 1)
	want(t, "update", c.Update(50, merkle.Root(nil)), api.OK)
	refused := func(name string, c *chain.Chain, data string, timeout uint64, err api.Errno) {
		t.Helper()
		next, keys := c.Next(), len(c.Map())
		if p, got := c.Send(data, timeout); got != err || p != (api.Packet{}) || c.Next() != next || len(c.Map()) != keys {
			t.Errorf("%s: %d, not %d", name, got, err)
		}
	}
	refused("timeout 0", c, "", 0, api.ErrRange)
	refused("long", c, long, 100, api.ErrRange)
	refused("long and late", c, long, 50, api.ErrRange)
	refused("late", c, "", 50, api.ErrLate)
	refused("later", c, "", 1, api.ErrLate)
	send(t, c, "", 51)
	want(t, "update", c.Update(20, merkle.Root(nil)), api.OK)
	refused("the latest counts", c, "", 21, api.ErrLate)
	c = fresh(t, 0, most, 1)
	refused("height", c, long, 0, api.ErrOver)
	c = fresh(t, 0, most-1, most)
	refused("sequence", c, long, 0, api.ErrOver)
	c = fresh(t, 0, most-1, most-1)
	send(t, c, "", 1)
	refused("sequence", c, "", 1, api.ErrOver)
	commit(t, c)
	refused("both", c, "", 1, api.ErrOver)
}

// P13.1: a store that can't take a key more.
func TestSendFull(t *testing.T) {
	c := fresh(t, 0, 0, 1)
	for range 4096 {
		send(t, c, "", 9)
	}
	want(t, "update", c.Update(9, merkle.Root(nil)), api.OK)
	if _, err := c.Send("", 10); err != api.ErrFull || c.Next() != 4097 {
		t.Error(err)
	}
	if _, err := c.Send("", 9); err != api.ErrLate {
		t.Error(err)
	}
	commit(t, c)
	if len(all(c)) != 4096 || len(c.Map()) != 4096 {
		t.Error("not all were sent")
	}
}

// P13.1 and P13.4: what the client is told.
func TestUpdate(t *testing.T) {
	c := fresh(t, 1, 3, 1)
	root := strings.Repeat("r", 32)
	want(t, "short", c.Update(5, root[1:]), api.ErrRange)
	want(t, "empty", c.Update(5, ""), api.ErrRange)
	for _, h := range []uint64{9, 5, most, 0} {
		want(t, "update", c.Update(h, root), api.OK)
	}
	want(t, "twice", c.Update(5, root), api.ErrTwice)
	if !slices.Equal(c.Known(), []uint64{0, 5, 9, most}) {
		t.Error(c.Known())
	}
	if h, ok := c.From(6); h != 9 || !ok {
		t.Error(h, ok)
	}
	for i := range uint64(4092) {
		want(t, "update", c.Update(100+i, root), api.OK)
	}
	want(t, "full", c.Update(99, root), api.ErrFull)
}

// stage is two chains: the first one's packet is sent, in a block, and known.
func stage(t *testing.T, timeout uint64) (c [2]*chain.Chain, p api.Packet, bytes string, h uint64) {
	t.Helper()
	c = both(t, 10, 20)
	p = send(t, c[0], "data", timeout)
	h = commit(t, c[0])
	update(t, c, 1)
	return c, p, prove(t, c[0], packet.Sent(p.Seq), h), h
}

// P13.2: a packet is received, once.
func TestRecv(t *testing.T) {
	c, p, bytes, h := stage(t, 100)
	want(t, "received", c[1].Recv(p, bytes, h), api.OK)
	if v, ok := c[1].Get(packet.Received(p.Seq)); v != "\x01" || !ok {
		t.Errorf("%q", v)
	}
	if v, ok := c[1].Get(packet.Answered(p.Seq)); v != packet.Answer(p) || !ok {
		t.Errorf("%q", v)
	}
	want(t, "twice", c[1].Recv(p, bytes, h), api.ErrTwice)
	commit(t, c[1])
	want(t, "twice, behind a block", c[1].Recv(p, bytes, h), api.ErrTwice)
	if l := all(c[1]); !slices.Equal(l, []api.Note{{Kind: api.Received, Packet: p}}) || len(c[1].Map()) != 2 {
		t.Error(l)
	}
}

// P13.2: what isn't received, and the order of errors.
func TestRecvRefused(t *testing.T) {
	c, p, bytes, h := stage(t, 100)
	with := func(change func(*api.Packet)) api.Packet {
		q := p
		change(&q)
		return q
	}
	before := c[1].Map()
	for _, k := range []struct {
		name   string
		p      api.Packet
		bytes  string
		height uint64
		want   api.Errno
	}{
		{"zero", api.Packet{}, bytes, h, api.ErrRange},
		{"its own", with(func(q *api.Packet) { q.From = 1 }), bytes, h, api.ErrRange},
		{"from none", with(func(q *api.Packet) { q.From = -1 }), bytes, h, api.ErrRange},
		{"from none", with(func(q *api.Packet) { q.From = 2 }), bytes, h, api.ErrRange},
		{"long", with(func(q *api.Packet) { q.Data = strings.Repeat("d", 65) }), bytes, h, api.ErrRange},
		{"timeout 0", with(func(q *api.Packet) { q.Timeout = 0 }), bytes, h, api.ErrRange},
		{"late", with(func(q *api.Packet) { q.Timeout = 21 }), bytes, h + 1, api.ErrLate},
		{"very late", with(func(q *api.Packet) { q.Timeout = 1 }), bytes, h + 1, api.ErrLate},
		{"not late", with(func(q *api.Packet) { q.Timeout = 22 }), bytes, h + 1, api.ErrEarly},
		{"early", p, bytes, h + 1, api.ErrEarly},
		{"early", p, bytes, h - 1, api.ErrEarly},
		{"early", p, "", 0, api.ErrEarly},
		{"another timeout", with(func(q *api.Packet) { q.Timeout = 22 }), bytes, h, api.ErrProof},
		{"other data", with(func(q *api.Packet) { q.Data = "Data" }), bytes, h, api.ErrProof},
		{"another sequence", with(func(q *api.Packet) { q.Seq = 2 }), bytes, h, api.ErrProof},
		{"nothing proves it", p, "", h, api.ErrProof},
		{"spoilt", p, "x" + bytes[1:], h, api.ErrProof},
		{"absent", p, prove(t, c[0], packet.Received(1), h), h, api.ErrProof},
	} {
		want(t, k.name, c[1].Recv(k.p, k.bytes, k.height), k.want)
	}
	if !slices.Equal(c[1].Map(), before) {
		t.Error("something has changed")
	}
	want(t, "at the other one", c[0].Recv(p, bytes, h), api.ErrRange)
	want(t, "received", c[1].Recv(p, bytes, h), api.OK)
	want(t, "twice ahead of early", c[1].Recv(p, "", 0), api.ErrTwice)
	want(t, "twice by its sequence alone", c[1].Recv(with(func(q *api.Packet) { q.Data = "x" }), bytes, h), api.ErrTwice)
	want(t, "late ahead of twice", c[1].Recv(with(func(q *api.Packet) { q.Timeout = 21 }), bytes, h), api.ErrLate)
}

// P13.2: at the greatest height, at the Timeout, and one ahead of it.
func TestRecvAtTheEdges(t *testing.T) {
	c := [2]*chain.Chain{fresh(t, 0, 0, 1), fresh(t, 1, most, 1)}
	p := send(t, c[0], "", most)
	h := commit(t, c[0])
	update(t, c, 1)
	want(t, "over", c[1].Recv(p, prove(t, c[0], packet.Sent(1), h), h), api.ErrOver)
	want(t, "over ahead of range", c[1].Recv(api.Packet{}, "", h), api.ErrOver)
	for height := uint64(20); height < 25; height++ {
		c, p, bytes, h := stage(t, 24)
		for c[1].Height() != height {
			commit(t, c[1])
		}
		err := api.OK
		if height+1 >= 24 {
			err = api.ErrLate
		}
		want(t, fmt.Sprint("height ", height), c[1].Recv(p, bytes, h), err)
	}
	d := [2]*chain.Chain{fresh(t, 0, 0, 1), fresh(t, 1, most-1, 1)}
	q := send(t, d[0], "", most)
	h = commit(t, d[0])
	update(t, d, 1)
	want(t, "late at the greatest", d[1].Recv(q, prove(t, d[0], packet.Sent(1), h), h), api.ErrLate)
}

// P13.2: a store that can't take two keys more.
func TestRecvFull(t *testing.T) {
	c := both(t, 0, 0)
	p, q := send(t, c[0], "", 100), send(t, c[0], "", 100)
	h := commit(t, c[0])
	update(t, c, 1)
	for range 4093 {
		send(t, c[1], "", 100)
	}
	bp, bq := prove(t, c[0], packet.Sent(p.Seq), h), prove(t, c[0], packet.Sent(q.Seq), h)
	want(t, "the last two", c[1].Recv(p, bp, h), api.OK)
	want(t, "one left", c[1].Recv(q, bq, h), api.ErrFull)
	want(t, "proof ahead of full", c[1].Recv(q, bp, h), api.ErrProof)
	if has(c[1], packet.Received(q.Seq)) || has(c[1], packet.Answered(q.Seq)) || len(c[1].Map()) != 4095 {
		t.Error("something has changed")
	}
	send(t, c[1], "", 100)
	want(t, "none left", c[1].Recv(q, bq, h), api.ErrFull)
	d := both(t, 0, 0)
	r := send(t, d[0], "", 100)
	h = commit(t, d[0])
	update(t, d, 1)
	for range 4094 {
		send(t, d[1], "", 100)
	}
	want(t, "just two left", d[1].Recv(r, prove(t, d[0], packet.Sent(r.Seq), h), h), api.OK)
	if len(d[1].Map()) != 4096 {
		t.Error(len(d[1].Map()))
	}
}

// answered: a stage whose packet was received, in a block, and known to its own chain.
func answered(t *testing.T) (c [2]*chain.Chain, p api.Packet, bytes string, h uint64) {
	t.Helper()
	c, p, sent, at := stage(t, 100)
	want(t, "received", c[1].Recv(p, sent, at), api.OK)
	commit(t, c[1])
	h = update(t, c, 0)
	return c, p, prove(t, c[1], packet.Answered(p.Seq), h), h
}

// P13.3: a packet is answered, once.
func TestAck(t *testing.T) {
	c, p, bytes, h := answered(t)
	want(t, "acked", c[0].Ack(p, bytes, h), api.OK)
	if has(c[0], packet.Sent(p.Seq)) || len(c[0].Map()) != 0 {
		t.Error("Sent is there still")
	}
	want(t, "twice", c[0].Ack(p, bytes, h), api.ErrNone)
	commit(t, c[0])
	if l := all(c[0]); !slices.Equal(l, []api.Note{{Kind: api.Sent, Packet: p}, {Kind: api.Acked, Packet: p}}) {
		t.Error(l)
	}
}

// P13.3: what isn't answered, and the order of errors.
func TestAckRefused(t *testing.T) {
	c, p, bytes, h := answered(t)
	other := p
	other.Data = "other"
	theirs := p
	theirs.From = 1
	q := send(t, c[0], "more", 200)
	for _, k := range []struct {
		name   string
		p      api.Packet
		bytes  string
		height uint64
		want   api.Errno
	}{
		{"zero", api.Packet{}, bytes, h, api.ErrRange},
		{"from the other one", theirs, bytes, h, api.ErrRange},
		{"other data", other, bytes, h + 1, api.ErrNone},
		{"never sent", api.Packet{From: 0, Seq: 9, Timeout: 9}, bytes, h + 1, api.ErrNone},
		{"early", p, bytes, h + 1, api.ErrEarly},
		{"early", p, bytes, h - 1, api.ErrEarly},
		{"nothing proves it", p, "", h, api.ErrProof},
		{"another one's proof", q, bytes, h, api.ErrProof},
		{"received, but that isn't its answer", p, prove(t, c[1], packet.Received(p.Seq), h), h, api.ErrProof},
		{"spoilt", p, bytes[:len(bytes)-1] + string([]byte{bytes[len(bytes)-1] ^ 1}), h, api.ErrProof},
	} {
		want(t, k.name, c[0].Ack(k.p, k.bytes, k.height), k.want)
	}
	if !has(c[0], packet.Sent(p.Seq)) || !has(c[0], packet.Sent(q.Seq)) {
		t.Error("something has changed")
	}
	want(t, "at the other one", c[1].Ack(p, bytes, h), api.ErrRange)
	want(t, "acked", c[0].Ack(p, bytes, h), api.OK)
	over := fresh(t, 0, most, 1)
	want(t, "over", over.Ack(p, bytes, h), api.ErrOver)
	want(t, "over ahead of range", over.Ack(api.Packet{}, "", 0), api.ErrOver)
	want(t, "over", over.Timeout(api.Packet{}, "", 0), api.ErrOver)
}

// P13.3: a packet is timed out from the height of its Timeout less one on.
func TestTimeout(t *testing.T) {
	for height := uint64(20); height < 27; height++ {
		c := both(t, 10, 20)
		p := send(t, c[0], "data", 24)
		for c[1].Height() != height {
			commit(t, c[1])
		}
		h := update(t, c, 0)
		bytes := prove(t, c[1], packet.Received(p.Seq), h)
		if height < 23 {
			want(t, fmt.Sprint("height ", height), c[0].Timeout(p, bytes, h), api.ErrEarly)
			continue
		}
		want(t, "nothing proves it", c[0].Timeout(p, "", h), api.ErrProof)
		want(t, fmt.Sprint("height ", height), c[0].Timeout(p, bytes, h), api.OK)
		want(t, "twice", c[0].Timeout(p, bytes, h), api.ErrNone)
		want(t, "acked behind it", c[0].Ack(p, bytes, h), api.ErrNone)
		if has(c[0], packet.Sent(p.Seq)) {
			t.Error("Sent is there still")
		}
		commit(t, c[0])
		if l := all(c[0]); !slices.Equal(l, []api.Note{{Kind: api.Sent, Packet: p}, {Kind: api.TimedOut, Packet: p}}) {
			t.Error(l)
		}
	}
}

// P13.3: what isn't timed out, and the order of errors.
func TestTimeoutRefused(t *testing.T) {
	c, p, bytes, h := stage(t, 23)
	want(t, "received", c[1].Recv(p, bytes, h), api.OK)
	q := send(t, c[0], "", 23)
	for c[1].Height() != 23 {
		commit(t, c[1])
	}
	last := update(t, c, 0)
	root, _ := c[1].Root(21)
	want(t, "update", c[0].Update(21, root), api.OK)
	gone := prove(t, c[1], packet.Received(q.Seq), last)
	other := q
	other.Data = "other"
	theirs := q
	theirs.From = 1
	for _, k := range []struct {
		name   string
		p      api.Packet
		bytes  string
		height uint64
		want   api.Errno
	}{
		{"zero", api.Packet{}, gone, last, api.ErrRange},
		{"from the other one", theirs, gone, last, api.ErrRange},
		{"other data", other, gone, 0, api.ErrNone},
		{"ahead of its Timeout", q, prove(t, c[1], packet.Received(q.Seq), 21), 21, api.ErrEarly},
		{"ahead of its Timeout, not known", q, gone, 20, api.ErrEarly},
		{"not known", q, gone, 22, api.ErrEarly},
		{"not known", q, gone, 24, api.ErrEarly},
		{"it was received", p, prove(t, c[1], packet.Received(p.Seq), last), last, api.ErrProof},
		{"another one's proof", p, gone, last, api.ErrProof},
		{"of the answer's key", q, prove(t, c[1], packet.Answered(q.Seq), last), last, api.ErrProof},
		{"timed out", q, gone, last, api.OK},
	} {
		want(t, k.name, c[0].Timeout(k.p, k.bytes, k.height), k.want)
	}
	want(t, "at the other one", c[1].Timeout(p, gone, last), api.ErrRange)
	if !has(c[0], packet.Sent(p.Seq)) {
		t.Error("something has changed")
	}
}

// P13.4: blocks.
func TestCommit(t *testing.T) {
	c := fresh(t, 0, most-1, 1)
	p := send(t, c, "", 1)
	commit(t, c)
	if h, err := c.Commit(); h != 0 || err != api.ErrOver || c.Height() != most {
		t.Errorf("%d, %d", h, err)
	}
	if l := all(c); !slices.Equal(l, []api.Note{{Kind: api.Sent, Packet: p}}) {
		t.Error(l)
	}
	c = fresh(t, 0, 0, 1)
	for range 4095 {
		commit(t, c)
	}
	send(t, c, "", 1)
	if h, err := c.Commit(); h != 0 || err != api.ErrFull || c.Height() != 4095 || len(all(c)) != 0 {
		t.Errorf("%d, %d", h, err)
	}
	if _, err := c.Root(4096); err != api.ErrNone {
		t.Error(err)
	}
}

// P13.4: roots, proofs and the map.
func TestRootProveMap(t *testing.T) {
	c, p, bytes, h := stage(t, 100)
	q := send(t, c[1], "back", 100)
	want(t, "received", c[1].Recv(p, bytes, h), api.OK)
	now := []api.Pair{
		{Key: packet.Answered(p.Seq), Value: packet.Answer(p)},
		{Key: packet.Sent(q.Seq), Value: packet.Commitment(q)},
		{Key: packet.Received(p.Seq), Value: "\x01"},
	}
	if !slices.Equal(c[1].Map(), now) {
		t.Errorf("%q", c[1].Map())
	}
	if root, err := c[1].Root(20); root != merkle.Root(nil) || err != api.OK {
		t.Error("a block has changed")
	}
	commit(t, c[1])
	send(t, c[1], "behind", 100)
	root, err := c[1].Root(21)
	if root != merkle.Root(now) || err != api.OK {
		t.Errorf("root: %d", err)
	}
	for _, pair := range now {
		if !proof.Has(root, prove(t, c[1], pair.Key, 21), pair.Key, pair.Value) {
			t.Errorf("%q isn't proved", pair.Key)
		}
		if !proof.Lacks(merkle.Root(nil), prove(t, c[1], pair.Key, 20), pair.Key) {
			t.Errorf("%q isn't lacked at 20", pair.Key)
		}
	}
	for _, key := range []string{packet.Sent(2), "x", strings.Repeat("z", 16), "\x00"} {
		if !proof.Lacks(root, prove(t, c[1], key, 21), key) {
			t.Errorf("%q isn't lacked", key)
		}
	}
	for _, k := range []struct {
		key    string
		height uint64
		want   api.Errno
	}{{"", 21, api.ErrRange}, {strings.Repeat("z", 17), 21, api.ErrRange}, {"", 22, api.ErrNone}, {"a", 19, api.ErrNone}, {"a", 22, api.ErrNone}, {"a", most, api.ErrNone}} {
		if s, err := c[1].Prove(k.key, k.height); err != k.want || s != "" {
			t.Errorf("%q at %d: %d", k.key, k.height, err)
		}
	}
	if v, ok := c[1].Get("x"); v != "" || ok {
		t.Error("Get")
	}
	if len(c[1].Map()) != 4 {
		t.Error("the map is as it is, not as it was")
	}
	want(t, "acked", func() api.Errno {
		at := update(t, c, 0)
		return c[0].Ack(p, prove(t, c[1], packet.Answered(p.Seq), at), at)
	}(), api.OK)
	if len(c[0].Map()) != 0 {
		t.Error("what is deleted is in the map")
	}
}

// logged: a chain of heights 5 to 11, whose blocks have 0, 2, 0, 0, 3, 1, 0 notes; and one is built.
func logged(t *testing.T) (*chain.Chain, []api.Note) {
	c := fresh(t, 0, 5, 1)
	var l []api.Note
	for _, n := range []int{2, 0, 0, 3, 1, 0} {
		for range n {
			l = append(l, api.Note{Kind: api.Sent, Packet: send(t, c, "", 9)})
		}
		commit(t, c)
	}
	send(t, c, "built", 9)
	return c, l
}

// P13.5: the log from a place on.
func TestLog(t *testing.T) {
	c, l := logged(t)
	for _, k := range []struct {
		height uint64
		index  int
		most   int
		from   int
		to     int
		at     api.Place
	}{
		{5, 0, 100, 0, 6, api.Place{Height: 11}},
		{5, 0, 6, 0, 6, api.Place{Height: 11}},
		{5, 0, 0, 0, 0, api.Place{Height: 6}},
		{5, 0, -1, 0, 0, api.Place{Height: 6}},
		{5, 0, math.MinInt, 0, 0, api.Place{Height: 6}},
		{5, 0, math.MaxInt, 0, 6, api.Place{Height: 11}},
		{5, 7, 1, 0, 1, api.Place{Height: 6, Index: 1}},
		{5, -7, 1, 0, 1, api.Place{Height: 6, Index: 1}},
		{6, 0, 1, 0, 1, api.Place{Height: 6, Index: 1}},
		{6, -1, 1, 0, 1, api.Place{Height: 6, Index: 1}},
		{6, math.MinInt, 1, 0, 1, api.Place{Height: 6, Index: 1}},
		{6, 1, 0, 1, 1, api.Place{Height: 6, Index: 1}},
		{6, 1, 1, 1, 2, api.Place{Height: 9}},
		{6, 2, 0, 2, 2, api.Place{Height: 9}},
		{6, 3, 0, 2, 2, api.Place{Height: 9}},
		{6, math.MaxInt, 2, 2, 4, api.Place{Height: 9, Index: 2}},
		{7, 0, 3, 2, 5, api.Place{Height: 10}},
		{8, 0, 4, 2, 6, api.Place{Height: 11}},
		{9, 1, 2, 3, 5, api.Place{Height: 10}},
		{9, 1, 1, 3, 4, api.Place{Height: 9, Index: 2}},
		{10, 1, 5, 6, 6, api.Place{Height: 11}},
		{10, 0, 0, 5, 5, api.Place{Height: 10}},
		{11, 0, 5, 6, 6, api.Place{Height: 11}},
		{11, 9, 5, 6, 6, api.Place{Height: 11}},
		{11, -9, 5, 6, 6, api.Place{Height: 11}},
		{12, 0, 5, 0, 0, api.Place{Height: 12}},
		{12, 9, 5, 0, 0, api.Place{Height: 12, Index: 9}},
		{4, -3, 5, 0, 0, api.Place{Height: 4, Index: -3}},
		{0, 0, 5, 0, 0, api.Place{}},
		{most, 1, 5, 0, 0, api.Place{Height: most, Index: 1}},
	} {
		got, at := c.Log(api.Place{Height: k.height, Index: k.index}, k.most)
		if !slices.Equal(got, l[k.from:k.to]) || at != k.at {
			t.Errorf("%v: %v, %v", k, got, at)
		}
	}
	if c.First() != (api.Place{Height: 5}) {
		t.Error(c.First())
	}
}

// P13.5: the last block has notes; the place behind them stays in it, till there is another block.
func TestLogsEnd(t *testing.T) {
	c := fresh(t, 0, most-2, 1)
	send(t, c, "", 9)
	send(t, c, "", 9)
	commit(t, c)
	l, at := c.Log(c.First(), 9)
	if len(l) != 2 || at != (api.Place{Height: most - 1, Index: 2}) {
		t.Errorf("%v, %v", l, at)
	}
	if l, again := c.Log(at, 9); len(l) != 0 || again != at {
		t.Errorf("%v, %v", l, again)
	}
	p := send(t, c, "", 9)
	commit(t, c)
	if l, at := c.Log(at, 0); len(l) != 0 || at != (api.Place{Height: most}) {
		t.Errorf("%v, %v", l, at)
	}
	if l, at := c.Log(at, 9); !slices.Equal(l, []api.Note{{Kind: api.Sent, Packet: p}}) || at != (api.Place{Height: most, Index: 1}) {
		t.Errorf("%v, %v", l, at)
	}
}

// P13.5: read in parts of whatever size, the log tells all, once; answers are new memory.
func TestLogInParts(t *testing.T) {
	c, l := logged(t)
	for size := 1; size < 8; size++ {
		var got []api.Note
		at := c.First()
		for {
			part, next := c.Log(at, size)
			if len(part) == 0 {
				break
			}
			got = append(got, part...)
			at = next
		}
		if !slices.Equal(got, l) {
			t.Errorf("parts of %d", size)
		}
	}
	got := all(c)
	for i := range got {
		got[i].Kind = 99
	}
	if !slices.Equal(all(c), l) {
		t.Error("the log was changed by its answer")
	}
	m := c.Map()
	m[0] = api.Pair{}
	if c.Map()[0] == (api.Pair{}) {
		t.Error("the map was changed by its answer")
	}
}

// P13.6: whatever is asked in whatever order, nothing is received, answered or timed out twice, or too late.
func TestManyAsked(t *testing.T) {
	for seed := range uint32(4) {
		x := seed*77 + 5
		draw := func(n int) int {
			x = x*1664525 + 1013904223
			return int(x>>16) % n
		}
		c := both(t, uint64(draw(9)), uint64(draw(9)))
		var packets []api.Packet
		type outcome struct{ received, acked, timed int }
		out := map[api.Packet]*outcome{}
		for range 1500 {
			k := draw(2)
			switch draw(8) {
			case 0:
				if p, err := c[k].Send(fmt.Sprint(draw(9)), c[1-k].Height()+uint64(draw(40))); err == api.OK {
					packets = append(packets, p)
					out[p] = &outcome{}
				}
			case 1:
				commit(t, c[k])
			case 2:
				h := c[1-k].Height()
				root, _ := c[1-k].Root(h)
				c[k].Update(h, root)
			default:
				if len(packets) == 0 {
					continue
				}
				p := packets[max(0, len(packets)-1-draw(12))]
				what := draw(3)
				if draw(5) > 0 {
					k = p.From
					if what == 0 {
						k = 1 - p.From
					}
				}
				known := c[k].Known()
				if len(known) == 0 {
					continue
				}
				h := known[max(0, len(known)-1-draw(3))]
				// Most of the time the key is the one that is asked for.
				keys := []string{packet.Sent(p.Seq), packet.Answered(p.Seq), packet.Received(p.Seq)}
				key := keys[what]
				if draw(8) == 0 {
					key = keys[draw(3)]
				}
				bytes := prove(t, c[1-k], key, h)
				built := c[k].Height() + 1
				switch what {
				case 0:
					if c[k].Recv(p, bytes, h) == api.OK {
						out[p].received++
						if p.From == k || built >= p.Timeout {
							t.Fatal("received by its own chain, or too late")
						}
					}
				case 1:
					if c[k].Ack(p, bytes, h) == api.OK {
						out[p].acked++
						if out[p].received == 0 || p.From != k {
							t.Fatal("answered without being received")
						}
					}
				default:
					if c[k].Timeout(p, bytes, h) == api.OK {
						out[p].timed++
						if h+1 < p.Timeout || p.From != k {
							t.Fatal("timed out too early")
						}
					}
				}
			}
		}
		sum := outcome{}
		for p, o := range out {
			if o.received > 1 || o.acked+o.timed > 1 || o.received > 0 && o.timed > 0 {
				t.Fatalf("%v: %v", p, *o)
			}
			sum.received += o.received
			sum.acked += o.acked
			sum.timed += o.timed
		}
		if sum.received == 0 || sum.acked == 0 || sum.timed == 0 {
			t.Errorf("too little was done: %v", sum)
		}
	}
}
