package packet_test

import (
	"crypto/sha256"
	"math"
	"strings"
	"testing"

	"carrack/api"
	"carrack/packet"
	"carrack/wire"
)

func sum(s string) string {
	d := sha256.Sum256([]byte(s))
	return string(d[:])
}

var (
	data    = strings.Repeat("d", 65)
	example = api.Packet{From: 1, Seq: 258, Timeout: 0x0102030405060708, Data: "hello"}
	inBytes = "\x01\x00\x00\x00\x00\x00\x00\x01\x02\x01\x02\x03\x04\x05\x06\x07\x08\x00\x05hello"
)

var good = []api.Packet{
	example,
	{From: 0, Seq: 1, Timeout: 1},
	{From: 1, Seq: math.MaxUint64, Timeout: math.MaxUint64, Data: data[:64]},
	{From: 0, Seq: 1, Timeout: 1, Data: "\x00\xff"},
}

var bad = []api.Packet{
	{}, {From: -1, Seq: 1, Timeout: 1}, {From: 2, Seq: 1, Timeout: 1}, {From: 256, Seq: 1, Timeout: 1}, {From: math.MinInt, Seq: 1, Timeout: 1},
	{From: 1, Timeout: 1}, {From: 1, Seq: 1}, {From: 1, Seq: 1, Timeout: 1, Data: data}, {Seq: 1, Timeout: 1, Data: strings.Repeat("d", 70000)},
}

// P10.1: which packets may be, and their bytes.
func TestCheckAndBytes(t *testing.T) {
	for _, p := range good {
		if err := packet.Check(p); err != api.OK {
			t.Errorf("%v: %d", p, err)
		}
		s, err := packet.Bytes(p)
		if err != api.OK {
			t.Errorf("%v: %d", p, err)
		}
		if got, err := packet.Parse(s); got != p || err != api.OK {
			t.Errorf("%v is parsed as %v, %d", p, got, err)
		}
		if packet.Commitment(p) != sum(s) || packet.Answer(p) != sum("ack"+s) {
			t.Errorf("%v: commitment or answer", p)
		}
	}
	if s, _ := packet.Bytes(example); s != inBytes {
		t.Errorf("%q", s)
	}
	for _, p := range bad {
		if err := packet.Check(p); err != api.ErrRange {
			t.Errorf("%v may be: %d", p, err)
		}
		if s, err := packet.Bytes(p); s != "" || err != api.ErrRange {
			t.Errorf("%v has bytes: %d", p, err)
		}
		if packet.Commitment(p) != "" || packet.Answer(p) != "" {
			t.Errorf("%v has a digest", p)
		}
	}
}

// wrong: texts that are no packet's, and why.
func wrong() map[string]api.Errno {
	l := map[string]api.Errno{
		inBytes + "x":                                                    api.ErrMore,
		inBytes + inBytes:                                                api.ErrMore,
		"\x02" + inBytes[1:]:                                             api.ErrForm,
		"\xff" + inBytes[1:]:                                             api.ErrForm,
		"\x02" + inBytes[1:] + "x":                                       api.ErrForm,
		"\x02" + inBytes[1:20]:                                           api.ErrShort,
		inBytes[:17] + "\x00\x41" + data:                                 api.ErrForm,
		inBytes[:17] + "\x00\x41" + data[:64]:                            api.ErrShort,
		inBytes[:17] + "\x00\x41" + data + "x":                           api.ErrForm,
		inBytes[:17] + "\xff\xff" + data:                                 api.ErrShort,
		"\x01" + strings.Repeat("\x00", 8) + inBytes[9:]:                 api.ErrForm,
		inBytes[:9] + strings.Repeat("\x00", 8) + inBytes[17:]:           api.ErrForm,
		inBytes[:9] + strings.Repeat("\x00", 8) + inBytes[17:] + "\x00":  api.ErrForm,
		inBytes[:9] + strings.Repeat("\x00", 8) + inBytes[17:] + inBytes: api.ErrForm,
	}
	for i := range len(inBytes) {
		l[inBytes[:i]] = api.ErrShort
	}
	return l
}

// P10.1: what is no packet's bytes, and the order of errors.
func TestParseWrong(t *testing.T) {
	for s, want := range wrong() {
		if p, err := packet.Parse(s); err != want || p != (api.Packet{}) {
			t.Errorf("%q: %d, not %d", s, err, want)
		}
	}
}

// P10.2: packets one behind the other.
func TestPutAndGet(t *testing.T) {
	var w wire.Writer
	w.Byte(9)
	for _, p := range good {
		packet.Put(&w, p)
	}
	s, err := w.Bytes()
	if err != api.OK || s[:1+len(inBytes)] != "\x09"+inBytes {
		t.Fatalf("%q, %d", s, err)
	}
	r := wire.NewReader(s)
	r.Byte()
	for _, p := range good {
		if got := packet.Get(r); got != p || r.Err() != api.OK {
			t.Errorf("%v: %v, %d", p, got, r.Err())
		}
	}
	if r.End() != api.OK {
		t.Error(r.End())
	}
	if packet.Get(r) != (api.Packet{}) || r.Err() != api.ErrShort {
		t.Error("behind all")
	}
}

// P10.2: what may not be put.
func TestPutWrong(t *testing.T) {
	for _, p := range bad {
		var w wire.Writer
		w.Byte(1)
		packet.Put(&w, p)
		if s, err := w.Bytes(); err != api.ErrRange || s != "" {
			t.Errorf("%v: %d", p, err)
		}
	}
}

// P10.2: what isn't got.
func TestGetWrong(t *testing.T) {
	for s, want := range wrong() {
		r := wire.NewReader(s)
		p := packet.Get(r)
		if want == api.ErrMore {
			if p != example || r.Err() != api.OK || r.Left() != len(s)-len(inBytes) {
				t.Errorf("%q: %v, %d", s, p, r.Err())
			}
			continue
		}
		if p != (api.Packet{}) || r.Err() != want {
			t.Errorf("%q: %v, %d, not %d", s, p, r.Err(), want)
		}
	}
	r := wire.NewReader(inBytes)
	r.Fail(api.ErrSum)
	if p := packet.Get(r); p != (api.Packet{}) || r.Err() != api.ErrSum {
		t.Error("an error is remembered already")
	}
}

// P10.3: keys and their sequences.
func TestKeys(t *testing.T) {
	if packet.Sent(258) != "c\x00\x00\x00\x00\x00\x00\x01\x02" {
		t.Errorf("%q", packet.Sent(258))
	}
	for _, c := range []struct {
		seq  uint64
		text string
	}{{0, "\x00\x00\x00\x00\x00\x00\x00\x00"}, {1, "\x00\x00\x00\x00\x00\x00\x00\x01"}, {0x0102030405060708, "\x01\x02\x03\x04\x05\x06\x07\x08"}, {math.MaxUint64, "\xff\xff\xff\xff\xff\xff\xff\xff"}} {
		for letter, got := range map[string]string{"c": packet.Sent(c.seq), "r": packet.Received(c.seq), "a": packet.Answered(c.seq)} {
			if got != letter+c.text {
				t.Errorf("%s %d: %q", letter, c.seq, got)
			}
			if seq, ok := packet.Sequence(got); seq != c.seq || !ok {
				t.Errorf("%q: %d, %v", got, seq, ok)
			}
		}
	}
	for _, s := range []string{"", "c", "r1234567", "c123456789", "b12345678", "C12345678", "\x0012345678", "12345678", "ca12345678", "\xe1\x8812345678", "ra1234567"[:8]} {
		if seq, ok := packet.Sequence(s); seq != 0 || ok {
			t.Errorf("%q: %d, %v", s, seq, ok)
		}
	}
}
