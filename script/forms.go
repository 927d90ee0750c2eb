package script

import (
	"carrack/api"
	"carrack/wire"
)

// form is how what stands behind a Kind, or a part of it, is written and read, and which fields that are.
type form struct {
	write func(w *wire.Writer, a *api.Act)
	read  func(r *wire.Reader, a *api.Act)
	keep  func(from, to *api.Act)
}

// forms: by Kinds.
func forms() [api.Acts]form {
	chain := small(func(a *api.Act) *int { return &a.Chain })
	n := small(func(a *api.Act) *int { return &a.N })
	return [api.Acts]form{
		api.ActSend: all(
			chain,
			number(func(a *api.Act) *uint64 { return &a.Timeout }),
			text(func(a *api.Act) *string { return &a.Data }),
		),
		api.ActCommit:  chain,
		api.ActStep:    all(),
		api.ActDeliver: n,
		api.ActDrop:    n,
		api.ActTwice:   n,
		api.ActForge:   message(),
		api.ActFail:    n,
		api.ActCrash:   writes(),
	}
}

// message: a forged one.
func message() form {
	return all(
		small(func(a *api.Act) *int { return &a.Message.Kind }),
		small(func(a *api.Act) *int { return &a.Message.To }),
		number(func(a *api.Act) *uint64 { return &a.Message.Height }),
		small(func(a *api.Act) *int { return &a.Message.Packet.From }),
		number(func(a *api.Act) *uint64 { return &a.Message.Packet.Seq }),
		number(func(a *api.Act) *uint64 { return &a.Message.Packet.Timeout }),
		text(func(a *api.Act) *string { return &a.Message.Packet.Data }),
		text(func(a *api.Act) *string { return &a.Message.Proof }),
	)
}

// all: parts, one behind the other.
func all(parts ...form) form {
	return form{
		write: func(w *wire.Writer, a *api.Act) {
			for _, part := range parts {
				part.write(w, a)
			}
		},
		read: func(r *wire.Reader, a *api.Act) {
			for _, part := range parts {
				part.read(r, a)
			}
		},
		keep: func(from, to *api.Act) {
			for _, part := range parts {
				part.keep(from, to)
			}
		},
	}
}

// small: a field that is a small number.
func small(field func(*api.Act) *int) form {
	return form{
		write: func(w *wire.Writer, a *api.Act) { w.Byte(*field(a)) },
		read:  func(r *wire.Reader, a *api.Act) { *field(a) = r.Byte() },
		keep:  func(from, to *api.Act) { *field(to) = *field(from) },
	}
}

// number: a field that is a number.
func number(field func(*api.Act) *uint64) form {
	return form{
		write: func(w *wire.Writer, a *api.Act) { w.Number(*field(a)) },
		read:  func(r *wire.Reader, a *api.Act) { *field(a) = r.Number() },
		keep:  func(from, to *api.Act) { *field(to) = *field(from) },
	}
}

// text: a field that is a text.
func text(field func(*api.Act) *string) form {
	return form{
		write: func(w *wire.Writer, a *api.Act) { w.Text(*field(a)) },
		read:  func(r *wire.Reader, a *api.Act) { *field(a) = r.Text() },
		keep:  func(from, to *api.Act) { *field(to) = *field(from) },
	}
}

// writes: what a crash does with each of them.
func writes() form {
	return form{
		write: func(w *wire.Writer, a *api.Act) {
			w.Byte(len(a.Writes))
			for _, x := range a.Writes {
				lasts := 0
				if x.Lasts {
					lasts = 1
				}
				w.Byte(lasts)
				putPair(w, x.Torn)
			}
		},
		read: func(r *wire.Reader, a *api.Act) {
			for range r.Byte() {
				lasts := r.Byte() != 0
				a.Writes = append(a.Writes, api.Write{Lasts: lasts, Torn: getPair(r)})
			}
		},
		keep: func(from, to *api.Act) { to.Writes = from.Writes },
	}
}
