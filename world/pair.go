package world

import (
	"carrack/api"
	"carrack/chain"
	"carrack/packet"
)

// pair is both chains.
type pair struct {
	chains [2]*chain.Chain
}

// Chains: themselves.
func (p pair) Chains() [2]*chain.Chain {
	return p.chains
}

// stands: has its own chain its commitment still?
func (p pair) stands(sent api.Packet) bool {
	if packet.Check(sent) != api.OK {
		return false
	}
	commitment, there := p.chains[sent.From].Get(packet.Sent(sent.Seq))
	return there && commitment == packet.Commitment(sent)
}

// seen: what the daemon sees of a chain's log.
func (p pair) seen(k int) seen {
	return seen{pair: p, by: k}
}

// seen is a chain's log, in which what is over already is told as Acked.
type seen struct {
	pair
	by int
}

// Log: notes from a place on.
func (s seen) Log(at api.Place, most int) ([]api.Note, api.Place) {
	l, behind := s.chains[s.by].Log(at, most)
	for i, n := range l {
		if (n.Kind == api.Sent || n.Kind == api.Received) && !s.stands(n.Packet) {
			l[i].Kind = api.Acked
		}
	}
	return l, behind
}
