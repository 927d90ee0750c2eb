package net_test

import (
	"math"
	"slices"
	"testing"

	"carrack/api"
	"carrack/net"
)

// msg: one that tells its name.
func msg(name string) api.Message {
	return api.Message{Kind: api.MsgRecv, To: 1, Height: 7, Packet: api.Packet{From: 0, Seq: 1, Timeout: 9, Data: name}, Proof: name}
}

func of(names string) *net.Net {
	n := net.New()
	for _, c := range names {
		n.Send(msg(string(c)))
	}
	return n
}

func names(t *testing.T, n *net.Net) string {
	t.Helper()
	s := ""
	for _, m := range n.List() {
		if m != msg(m.Proof) {
			t.Fatalf("%+v", m)
		}
		s += m.Proof
	}
	if n.Len() != len(s) {
		t.Fatalf("%d, not %d", n.Len(), len(s))
	}
	return s
}

func on(t *testing.T, n *net.Net, want string) {
	t.Helper()
	if got := names(t, n); got != want {
		t.Fatalf("%q, not %q", got, want)
	}
}

// P20.1: sent, from the front, behind the others.
func TestSend(t *testing.T) {
	n := net.New()
	on(t, n, "")
	if n.Send() != 0 || n.Send(msg("a"), msg("b")) != 2 || n.Send(msg("c")) != 1 {
		t.Error("how many")
	}
	on(t, n, "abc")
	l := []api.Message{msg("d"), msg("e")}
	n.Send(l...)
	l[0] = api.Message{}
	on(t, n, "abcde")
}

// P20.1: no more than 256.
func TestFull(t *testing.T) {
	n := net.New()
	var l []api.Message
	for i := range 300 {
		l = append(l, api.Message{Height: uint64(i)})
	}
	if got := n.Send(l[:250]...); got != 250 {
		t.Error(got)
	}
	if got := n.Send(l[250:]...); got != 6 || n.Len() != 256 {
		t.Error(got, n.Len())
	}
	if got := n.Send(l...); got != 0 {
		t.Error(got)
	}
	if err := n.Twice(0); err != api.ErrFull {
		t.Error(err)
	}
	if err := n.Twice(256); err != api.ErrNone {
		t.Error(err)
	}
	if !slices.Equal(n.List(), l[:256]) {
		t.Error("not from the front")
	}
	if m, err := n.Take(3); err != api.OK || m.Height != 3 {
		t.Error(m, err)
	}
	if err := n.Twice(0); err != api.OK || n.Len() != 256 || n.List()[255].Height != 0 {
		t.Error(err)
	}
	if err := n.Twice(0); err != api.ErrFull {
		t.Error(err)
	}
	l = append(l, l...)
	if got := net.New().Send(l...); got != 256 {
		t.Error(got)
	}
}

// P20.1: taken is gone.
func TestTake(t *testing.T) {
	for k, c := range []struct{ got, left string }{{"a", "bcd"}, {"b", "acd"}, {"c", "abd"}, {"d", "abc"}} {
		n := of("abcd")
		if m, err := n.Take(k); err != api.OK || m != msg(c.got) {
			t.Errorf("%d: %v, %d", k, m, err)
		}
		on(t, n, c.left)
	}
	n := of("ab")
	for _, k := range []int{-1, 2, math.MaxInt, math.MinInt} {
		if m, err := n.Take(k); err != api.ErrNone || m != (api.Message{}) {
			t.Errorf("%d: %d", k, err)
		}
		if err := n.Twice(k); err != api.ErrNone {
			t.Errorf("%d: %d", k, err)
		}
	}
	on(t, n, "ab")
	n.Take(0)
	n.Take(0)
	if _, err := n.Take(0); err != api.ErrNone {
		t.Error(err)
	}
	n.Send(msg("x"))
	on(t, n, "x")
}

// P20.1: doubled behind the others.
func TestTwice(t *testing.T) {
	n := of("ab")
	if err := n.Twice(0); err != api.OK {
		t.Error(err)
	}
	on(t, n, "aba")
	if err := n.Twice(1); err != api.OK {
		t.Error(err)
	}
	on(t, n, "abab")
}

// P20.2: moved, with the document's example.
func TestMove(t *testing.T) {
	n := of("ab")
	n.Twice(0)
	if err := n.Move(2, 0); err != api.OK {
		t.Error(err)
	}
	on(t, n, "aab")
	for k := range 5 {
		for to := range 5 {
			n := of("abcde")
			if err := n.Move(k, to); err != api.OK {
				t.Errorf("%d to %d: %d", k, to, err)
			}
			l := []byte("abcde")
			l = slices.Delete(l, k, k+1)
			l = slices.Insert(l, to, "abcde"[k])
			on(t, n, string(l))
		}
	}
	n = of("abc")
	for _, c := range [][2]int{{-1, 0}, {0, -1}, {3, 0}, {0, 3}, {math.MaxInt, 1}, {1, math.MaxInt}, {math.MinInt, math.MinInt}} {
		if err := n.Move(c[0], c[1]); err != api.ErrNone {
			t.Errorf("%v: %d", c, err)
		}
	}
	on(t, n, "abc")
	if err := net.New().Move(0, 0); err != api.ErrNone {
		t.Error(err)
	}
}

// P20.2: lists are new memory; nets are apart.
func TestListIsNew(t *testing.T) {
	n := of("abc")
	l := n.List()
	l[0] = api.Message{}
	_ = append(l[:1], api.Message{})
	on(t, n, "abc")
	old := n.List()
	n.Take(0)
	n.Move(0, 1)
	if old[0] != msg("a") || old[1] != msg("b") || old[2] != msg("c") {
		t.Error("a list was changed")
	}
	on(t, net.New(), "")
}
