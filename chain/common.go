package chain

import (
	"math"

	"carrack/api"
	"carrack/client"
	"carrack/packet"
	"carrack/store"
)

// common is what a chain's calls have in common.
type common struct {
	id     int
	store  *store.Store
	client *client.Client
	next   uint64
	first  uint64       // the first block's height
	blocks [][]api.Note // of each block what was noted for it
	built  []api.Note   // and of the block that is built
}

// first: the first error of what is asked, in order; what stands behind it isn't asked.
func first(asked ...func() api.Errno) api.Errno {
	for _, ask := range asked {
		if err := ask(); err != api.OK {
			return err
		}
	}
	return api.OK
}

// unless: that error, unless it is so.
func unless(err api.Errno, so func() bool) func() api.Errno {
	return func() api.Errno {
		if so() {
			return api.OK
		}
		return err
	}
}

// goesOn: the block that is built has a height.
func (c *common) goesOn() api.Errno {
	if c.store.Height() == math.MaxUint64 {
		return api.ErrOver
	}
	return api.OK
}

// isFrom: a packet may be, and is from that chain.
func (c *common) isFrom(p api.Packet, id int) func() api.Errno {
	return unless(api.ErrRange, func() bool { return packet.Check(p) == api.OK && p.From == id })
}

// hasRoom: the store can take so many keys more.
func (c *common) hasRoom(keys int) func() api.Errno {
	return unless(api.ErrFull, func() bool { return c.store.Len()+keys <= api.MaxKeys })
}

// proves: the client knows a root of that height, under which it is proved.
func (c *common) proves(height uint64, proved func(root string) bool) func() api.Errno {
	return func() api.Errno {
		root, known := c.client.Root(height)
		switch {
		case !known:
			return api.ErrEarly
		case !proved(root):
			return api.ErrProof
		}
		return api.OK
	}
}

// has: is there such a key?
func (c *common) has(key string) bool {
	_, there := c.store.Get(key)
	return there
}

// stands: was this packet sent, and is neither answered nor timed out?
func (c *common) stands(p api.Packet) bool {
	value, there := c.store.Get(packet.Sent(p.Seq))
	return there && value == packet.Commitment(p)
}

// note: what was done goes into the block that is built.
func (c *common) note(kind int, p api.Packet) {
	c.built = append(c.built, api.Note{Kind: kind, Packet: p})
}

// settle: a packet of this chain's own doesn't stand any more, if what is asked besides holds.
func (c *common) settle(kind int, p api.Packet, besides ...func() api.Errno) api.Errno {
	err := first(
		c.goesOn,
		c.isFrom(p, c.id),
		unless(api.ErrNone, func() bool { return c.stands(p) }),
		func() api.Errno { return first(besides...) },
	)
	if err != api.OK {
		return err
	}
	c.store.Delete(packet.Sent(p.Seq))
	c.note(kind, p)
	return api.OK
}

// noted: what was done for the block of a height; it is there.
func (c *common) noted(height uint64) []api.Note {
	return c.blocks[height-c.first]
}
