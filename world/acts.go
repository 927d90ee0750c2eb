package world

import (
	"carrack/api"
	"carrack/relay"
)

// acts: how an act of each Kind is done.
func acts() [api.Acts]func(*World, api.Act) api.Reply {
	return [api.Acts]func(*World, api.Act) api.Reply{
		api.ActSend:    (*World).send,
		api.ActCommit:  (*World).commit,
		api.ActStep:    (*World).step,
		api.ActDeliver: (*World).deliver,
		api.ActDrop:    (*World).drop,
		api.ActTwice:   (*World).twice,
		api.ActForge:   (*World).forge,
		api.ActFail:    (*World).fail,
		api.ActCrash:   (*World).crash,
	}
}

func (w *World) send(a api.Act) api.Reply {
	if !isChain(a.Chain) {
		return api.Reply{Err: api.ErrRange}
	}
	p, err := w.chains[a.Chain].Send(a.Data, a.Timeout)
	return api.Reply{Err: err, Seq: p.Seq}
}

func (w *World) commit(a api.Act) api.Reply {
	if !isChain(a.Chain) {
		return api.Reply{Err: api.ErrRange}
	}
	_, err := w.chains[a.Chain].Commit()
	return api.Reply{Err: err}
}

func (w *World) step(api.Act) api.Reply {
	if w.Down() {
		return api.Reply{Err: api.ErrHalt}
	}
	if err := w.clear(); err != api.OK {
		return api.Reply{Err: err}
	}
	for k := range w.chains {
		if err := w.read(k); err != api.OK {
			return api.Reply{Err: err}
		}
	}
	return api.Reply{Count: w.submit()}
}

func (w *World) deliver(a api.Act) api.Reply {
	m, err := w.net.Take(a.N)
	if err != api.OK {
		return api.Reply{Err: err}
	}
	return w.delivered(m)
}

func (w *World) drop(a api.Act) api.Reply {
	_, err := w.net.Take(a.N)
	return api.Reply{Err: err}
}

func (w *World) twice(a api.Act) api.Reply {
	return api.Reply{Err: w.net.Twice(a.N)}
}

func (w *World) forge(a api.Act) api.Reply {
	// What a chain knows of the other one is never forged.
	if a.Message.Kind == api.MsgUpdate {
		return api.Reply{Err: api.ErrRange}
	}
	return w.delivered(a.Message)
}

func (w *World) fail(a api.Act) api.Reply {
	w.disk.Arm(a.N)
	return api.Reply{}
}

func (w *World) crash(a api.Act) api.Reply {
	w.disk.Crash(a.Writes...)
	return api.Reply{Err: w.open()}
}

// delivered: a message is; its error is the only code.
func (w *World) delivered(m api.Message) api.Reply {
	return api.Reply{Codes: []api.Errno{relay.Deliver(m, w.chains)}}
}

func isChain(k int) bool {
	return k == 0 || k == 1
}
