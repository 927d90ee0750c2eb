package client_test

import (
	"math"
	"slices"
	"strings"
	"testing"

	"carrack/api"
	"carrack/client"
)

// root: one that tells its height's lowest byte.
func root(height uint64) string {
	return strings.Repeat(string([]byte{byte(height), byte(height >> 8)}), 16)
}

func set(t *testing.T, c *client.Client, height uint64) {
	t.Helper()
	if err := c.Set(height, root(height)); err != api.OK {
		t.Fatalf("set %d: %d", height, err)
	}
}

// knows: just these heights, rising.
func knows(t *testing.T, c *client.Client, want ...uint64) {
	t.Helper()
	if got := c.Heights(); !slices.Equal(got, want) {
		t.Fatalf("heights %v, not %v", got, want)
	}
	latest := uint64(0)
	if len(want) > 0 {
		latest = want[len(want)-1]
	}
	if c.Latest() != latest {
		t.Fatalf("latest %d, not %d", c.Latest(), latest)
	}
	for _, h := range want {
		if got, ok := c.Root(h); got != root(h) || !ok {
			t.Fatalf("root of %d: %x, %v", h, got, ok)
		}
	}
}

func from(t *testing.T, c *client.Client, height, want uint64, known bool) {
	t.Helper()
	if got, ok := c.From(height); got != want || ok != known {
		t.Errorf("from %d: %d, %v", height, got, ok)
	}
}

// P12.1 and P12.2: of a client that knows nothing.
func TestNew(t *testing.T) {
	c := client.New()
	knows(t, c)
	from(t, c, 0, 0, false)
	from(t, c, math.MaxUint64, 0, false)
	if r, ok := c.Root(0); r != "" || ok {
		t.Errorf("%q, %v", r, ok)
	}
}

// P12.1: what it is told, in whatever order.
func TestSet(t *testing.T) {
	c := client.New()
	set(t, c, 9)
	knows(t, c, 9)
	set(t, c, 5)
	knows(t, c, 5, 9)
	from(t, c, 6, 9, true)
	from(t, c, 5, 5, true)
	from(t, c, 9, 9, true)
	from(t, c, 0, 5, true)
	from(t, c, 10, 0, false)
	set(t, c, 7)
	set(t, c, math.MaxUint64)
	set(t, c, 0)
	set(t, c, 1<<63)
	knows(t, c, 0, 5, 7, 9, 1<<63, math.MaxUint64)
	from(t, c, 0, 0, true)
	from(t, c, 1, 5, true)
	from(t, c, 10, 1<<63, true)
	from(t, c, 1<<63+1, math.MaxUint64, true)
	from(t, c, math.MaxUint64, math.MaxUint64, true)
	for _, h := range []uint64{1, 6, 8, 10, math.MaxUint64 - 1} {
		if r, ok := c.Root(h); r != "" || ok {
			t.Errorf("%d: %q, %v", h, r, ok)
		}
	}
}

// P12.2: of a client that knows height 0 alone.
func TestHeightZero(t *testing.T) {
	c := client.New()
	set(t, c, 0)
	knows(t, c, 0)
	from(t, c, 0, 0, true)
	from(t, c, 1, 0, false)
}

// P12.1: what is refused, in which order.
func TestSetRefused(t *testing.T) {
	c := client.New()
	set(t, c, 3)
	for _, r := range []string{"", root(1)[:31], root(1) + "x"} {
		if err := c.Set(3, r); err != api.ErrRange {
			t.Errorf("%d bytes: %d", len(r), err)
		}
		if err := c.Set(4, r); err != api.ErrRange {
			t.Errorf("%d bytes: %d", len(r), err)
		}
	}
	if err := c.Set(3, root(3)); err != api.ErrTwice {
		t.Error(err)
	}
	if err := c.Set(3, root(4)); err != api.ErrTwice {
		t.Error(err)
	}
	knows(t, c, 3)
}

// P12.1: no more than 4096 of them.
func TestFull(t *testing.T) {
	c := client.New()
	var want []uint64
	for i := range uint64(4096) {
		h := i * 2654435761 % 1000003
		set(t, c, h)
		want = append(want, h)
	}
	slices.Sort(want)
	knows(t, c, want...)
	if err := c.Set(2000000, root(1)); err != api.ErrFull {
		t.Error(err)
	}
	if err := c.Set(want[7], root(1)); err != api.ErrTwice {
		t.Error(err)
	}
	if err := c.Set(2000000, "x"); err != api.ErrRange {
		t.Error(err)
	}
	knows(t, c, want...)
	for i, h := range want {
		from(t, c, h, h, true)
		if i > 0 {
			from(t, c, want[i-1]+1, h, true)
		}
	}
}

// Answers are new memory: changed or grown, they change nothing.
func TestHeightsAreNew(t *testing.T) {
	c := client.New()
	set(t, c, 2)
	set(t, c, 4)
	set(t, c, 6)
	l := c.Heights()
	l[0] = 99
	_ = append(l[:1], 77)
	knows(t, c, 2, 4, 6)
	old := c.Heights()
	set(t, c, 3)
	if !slices.Equal(old, []uint64{2, 4, 6}) {
		t.Error(old)
	}
	other := client.New()
	knows(t, other)
}
