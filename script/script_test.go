package script_test

import (
	"fmt"
	"math"
	"slices"
	"strings"
	"testing"

	"carrack/api"
	"carrack/script"
	"carrack/world"
)

var config = api.Config{Sector: 128, Sectors: 300, Table: 8, Batch: 7, Scan: 6, Heights: [2]uint64{5, 50}, Seqs: [2]uint64{1, 258}}

const inBytes = "\x08\x07\x06\x00\x80\x01\x2c" +
	"\x00\x00\x00\x00\x00\x00\x00\x05" + "\x00\x00\x00\x00\x00\x00\x00\x32" +
	"\x00\x00\x00\x00\x00\x00\x00\x01" + "\x00\x00\x00\x00\x00\x00\x01\x02"

func with(change func(*api.Config)) api.Config {
	c := config
	change(&c)
	return c
}

// same: nil and empty lists mean the same.
func same(a, b api.Act) bool {
	return slices.Equal(a.Writes, b.Writes) && a.Kind == b.Kind && a.Chain == b.Chain && a.Timeout == b.Timeout && a.Data == b.Data && a.N == b.N && a.Message == b.Message
}

func sameReply(a, b api.Reply) bool {
	return a.Err == b.Err && a.Seq == b.Seq && a.Count == b.Count && slices.Equal(a.Codes, b.Codes)
}

func put(t *testing.T, a api.Act) string {
	t.Helper()
	s, err := script.Put(a)
	if err != api.OK {
		t.Fatalf("%+v: %d", a, err)
	}
	return s
}

func putConfig(t *testing.T, c api.Config) string {
	t.Helper()
	s, err := script.PutConfig(c)
	if err != api.OK {
		t.Fatalf("%+v: %d", c, err)
	}
	return s
}

var forged = api.Message{Kind: 2, To: 1, Height: 258, Packet: api.Packet{From: 1, Seq: 3, Timeout: 4, Data: "data"}, Proof: "proof"}

// known: acts and their bytes.
var known = []struct {
	act api.Act
	s   string
}{
	{api.Act{Kind: api.ActSend, Chain: 1, Timeout: 258, Data: "ab"}, "\x00\x01\x00\x00\x00\x00\x00\x00\x01\x02\x00\x02ab"},
	{api.Act{Kind: api.ActSend}, "\x00\x00" + strings.Repeat("\x00", 10)},
	{api.Act{Kind: api.ActSend, Chain: 255, Timeout: math.MaxUint64}, "\x00\xff" + strings.Repeat("\xff", 8) + "\x00\x00"},
	{api.Act{Kind: api.ActCommit, Chain: 1}, "\x01\x01"},
	{api.Act{Kind: api.ActStep}, "\x02"},
	{api.Act{Kind: api.ActDeliver, N: 3}, "\x03\x03"},
	{api.Act{Kind: api.ActDrop, N: 255}, "\x04\xff"},
	{api.Act{Kind: api.ActTwice}, "\x05\x00"},
	{api.Act{Kind: api.ActForge, Message: forged}, "\x06\x02\x01\x00\x00\x00\x00\x00\x00\x01\x02\x01\x00\x00\x00\x00\x00\x00\x00\x03\x00\x00\x00\x00\x00\x00\x00\x04\x00\x04data\x00\x05proof"},
	{api.Act{Kind: api.ActForge}, "\x06" + strings.Repeat("\x00", 31)},
	{api.Act{Kind: api.ActFail, N: 9}, "\x07\x09"},
	{api.Act{Kind: api.ActCrash}, "\x08\x00"},
	{api.Act{Kind: api.ActCrash, Writes: []api.Write{{Lasts: true, Torn: 258}, {Torn: 65535}, {Lasts: true}}}, "\x08\x03\x01\x01\x02\x00\xff\xff\x01\x00\x00"},
}

// P23.1: acts' bytes, and what they tell.
func TestPutAndEntries(t *testing.T) {
	all := ""
	for _, k := range known {
		if got := put(t, k.act); got != k.s {
			t.Errorf("%+v: %q", k.act, got)
		}
		l := script.Entries(k.s)
		if len(l) != 1 || l[0].Err != api.OK || !same(l[0].Act, k.act) {
			t.Errorf("%q: %+v", k.s, l)
		}
		all += k.s
	}
	l := script.Entries(all)
	if len(l) != len(known) {
		t.Fatalf("%d entries", len(l))
	}
	for i, e := range l {
		if e.Err != api.OK || !same(e.Act, known[i].act) {
			t.Errorf("%d: %+v", i, e)
		}
	}
	if len(script.Entries("")) != 0 {
		t.Error("of nothing")
	}
	if l := script.Entries("\x08\x02\x02\x00\x01\xff\x00\x02"); len(l) != 1 || !slices.Equal(l[0].Act.Writes, []api.Write{{Lasts: true, Torn: 1}, {Lasts: true, Torn: 2}}) {
		t.Errorf("a byte that isn't 0 counts as 1: %+v", l)
	}
}

// P23.1: what has no bytes: its form first, then its range.
func TestPutWrong(t *testing.T) {
	refused := func(name string, a api.Act, want api.Errno) {
		t.Helper()
		if s, err := script.Put(a); err != want || s != "" {
			t.Errorf("%s of %d: %q, %d, not %d", name, a.Kind, s, err, want)
		}
	}
	for _, kind := range []int{-1, 9, 255, 256, math.MaxInt, math.MinInt} {
		refused("kind", api.Act{Kind: kind}, api.ErrForm)
	}
	fields := map[string]func(*api.Act){
		"Chain": func(a *api.Act) { a.Chain = 1 }, "Timeout": func(a *api.Act) { a.Timeout = 1 }, "Data": func(a *api.Act) { a.Data = "x" }, "N": func(a *api.Act) { a.N = 1 },
		"Message.Kind": func(a *api.Act) { a.Message.Kind = 1 }, "Message.To": func(a *api.Act) { a.Message.To = 1 }, "Message.Height": func(a *api.Act) { a.Message.Height = 1 },
		"Message.Packet": func(a *api.Act) { a.Message.Packet.Seq = 1 }, "Message.Data": func(a *api.Act) { a.Message.Packet.Data = "x" }, "Message.Proof": func(a *api.Act) { a.Message.Proof = "x" },
		"Writes": func(a *api.Act) { a.Writes = []api.Write{{}} },
	}
	has := map[int]string{api.ActSend: "Chain Timeout Data", api.ActCommit: "Chain", api.ActDeliver: "N", api.ActDrop: "N", api.ActTwice: "N", api.ActForge: "Message", api.ActFail: "N", api.ActCrash: "Writes"}
	for kind := range api.Acts {
		for name, set := range fields {
			a := api.Act{Kind: kind}
			set(&a)
			root, _, _ := strings.Cut(name, ".")
			if slices.Contains(strings.Fields(has[kind]), root) {
				put(t, a)
			} else {
				refused(name, a, api.ErrForm)
			}
		}
		if s, err := script.Put(api.Act{Kind: kind, Writes: []api.Write{}}); err != api.OK || s == "" {
			t.Errorf("an empty list isn't nil: %d", err)
		}
	}
	for _, n := range []int{-1, 256, math.MaxInt, math.MinInt} {
		for _, kind := range []int{api.ActDeliver, api.ActDrop, api.ActTwice, api.ActFail} {
			refused("N", api.Act{Kind: kind, N: n}, api.ErrRange)
			refused("N and Data", api.Act{Kind: kind, N: n, Data: "x"}, api.ErrForm)
		}
		refused("Chain", api.Act{Kind: api.ActSend, Chain: n}, api.ErrRange)
		refused("Chain", api.Act{Kind: api.ActCommit, Chain: n}, api.ErrRange)
		refused("Chain and N", api.Act{Kind: api.ActCommit, Chain: n, N: 1}, api.ErrForm)
		refused("Message.Kind", api.Act{Kind: api.ActForge, Message: api.Message{Kind: n}}, api.ErrRange)
		refused("Message.To", api.Act{Kind: api.ActForge, Message: api.Message{To: n}}, api.ErrRange)
		refused("Message.Packet.From", api.Act{Kind: api.ActForge, Message: api.Message{Packet: api.Packet{From: n}}}, api.ErrRange)
	}
	for _, n := range []int{-1, 65536, math.MaxInt, math.MinInt} {
		refused("Torn", api.Act{Kind: api.ActCrash, Writes: []api.Write{{}, {Torn: n}}}, api.ErrRange)
	}
	long := strings.Repeat("x", 65536)
	refused("Data", api.Act{Kind: api.ActSend, Data: long}, api.ErrRange)
	refused("Message.Packet.Data", api.Act{Kind: api.ActForge, Message: api.Message{Packet: api.Packet{Data: long}}}, api.ErrRange)
	refused("Message.Proof", api.Act{Kind: api.ActForge, Message: api.Message{Proof: long}}, api.ErrRange)
	refused("Writes", api.Act{Kind: api.ActCrash, Writes: make([]api.Write, 256)}, api.ErrRange)
	put(t, api.Act{Kind: api.ActSend, Data: long[1:]})
	if l := script.Entries(put(t, api.Act{Kind: api.ActCrash, Writes: make([]api.Write, 255)})); len(l) != 1 || len(l[0].Act.Writes) != 255 {
		t.Error("255 writes")
	}
}

// P23.1: bytes that are no Kind, and what is too short.
func TestEntriesWrong(t *testing.T) {
	is := func(s string, want ...script.Entry) {
		t.Helper()
		got := script.Entries(s)
		if !slices.EqualFunc(got, want, func(a, b script.Entry) bool { return a.Err == b.Err && same(a.Act, b.Act) }) {
			t.Errorf("%q: %+v", s, got)
		}
	}
	step, form, short := script.Entry{Act: api.Act{Kind: api.ActStep}}, script.Entry{Err: api.ErrForm}, script.Entry{Err: api.ErrShort}
	is("\x02\x09", step, form)
	is("\x09\xff\x0a\x02\x80", form, form, form, step, form)
	for _, k := range known {
		for i := 1; i < len(k.s); i++ {
			is("\x02"+k.s[:i], step, short)
		}
	}
	is("\x01", short)
	is("\x00\x01\x00\x00\x00\x00\x00\x00\x00\x01\xff\xff\x02\x02\x02", short)
	is("\x08\xff\x02\x02\x02", short)
}

// P23.1: configurations' bytes.
func TestConfig(t *testing.T) {
	if got := putConfig(t, config); got != inBytes {
		t.Errorf("%q", got)
	}
	for _, c := range []api.Config{config, {}, {Sector: 65535, Sectors: 65535, Table: 255, Batch: 255, Scan: 255, Heights: [2]uint64{math.MaxUint64, 1}, Seqs: [2]uint64{2, math.MaxUint64}}} {
		s := putConfig(t, c)
		for _, behind := range []string{"", "\x02", s} {
			if got, left, err := script.Config(s + behind); err != api.OK || got != c || left != behind {
				t.Errorf("%+v: %+v, %q, %d", c, got, left, err)
			}
		}
		for i := range len(s) {
			if got, left, err := script.Config(s[:i]); err != api.ErrShort || got != (api.Config{}) || left != "" {
				t.Errorf("cut at %d: %d", i, err)
			}
			if run, err := script.New(s[:i]); err != api.ErrShort || run != nil {
				t.Errorf("cut at %d: %d", i, err)
			}
			if got, err := script.Play(s[:i]); err != api.ErrShort || got != "" {
				t.Errorf("cut at %d: %d", i, err)
			}
		}
	}
	for _, n := range []int{-1, 256, math.MaxInt, math.MinInt} {
		for _, c := range []api.Config{with(func(c *api.Config) { c.Table = n }), with(func(c *api.Config) { c.Batch = n }), with(func(c *api.Config) { c.Scan = n })} {
			if s, err := script.PutConfig(c); err != api.ErrRange || s != "" {
				t.Errorf("%+v: %d", c, err)
			}
		}
	}
	for _, n := range []int{-1, 65536, math.MaxInt, math.MinInt} {
		for _, c := range []api.Config{with(func(c *api.Config) { c.Sector = n }), with(func(c *api.Config) { c.Sectors = n })} {
			if s, err := script.PutConfig(c); err != api.ErrRange || s != "" {
				t.Errorf("%+v: %d", c, err)
			}
		}
	}
}

// P23.2: replies' bytes.
func TestBytes(t *testing.T) {
	number := "\x00\x00\x00\x00\x00\x00\x01\x02"
	for _, c := range []struct {
		r    api.Reply
		want string
	}{
		{api.Reply{}, strings.Repeat("\x00", 12)},
		{api.Reply{Err: api.ErrOrder}, "\x0f" + strings.Repeat("\x00", 11)},
		{api.Reply{Seq: 258}, "\x00" + number + "\x00\x00\x00"},
		{api.Reply{Count: 259}, strings.Repeat("\x00", 9) + "\x01\x03\x00"},
		{api.Reply{Codes: []api.Errno{api.OK, api.ErrTwice}}, strings.Repeat("\x00", 11) + "\x02\x00\x04"},
		{api.Reply{Err: 0x1ff, Seq: 258, Count: 0x12345, Codes: []api.Errno{0x102, -1}}, "\xff" + number + "\x23\x45\x02\x02\xff"},
		{api.Reply{Err: -2, Count: -1}, "\xfe" + strings.Repeat("\x00", 8) + "\xff\xff\x00"},
		{api.Reply{Codes: make([]api.Errno, 300)}, strings.Repeat("\x00", 11) + "\xff" + strings.Repeat("\x00", 255)},
	} {
		if got := script.Bytes(c.r); got != c.want {
			t.Errorf("%+v: %q", c.r, got)
		}
	}
	if got := script.Bytes(); got != "" {
		t.Errorf("of none: %q", got)
	}
	a, b := api.Reply{Err: 1}, api.Reply{Count: 2, Codes: []api.Errno{3}}
	if script.Bytes(a, b, a) != script.Bytes(a)+script.Bytes(b)+script.Bytes(a) {
		t.Error("not one behind the other")
	}
}

// P23.2: configurations that may not be.
func TestNewWrong(t *testing.T) {
	for _, c := range []api.Config{{}, with(func(c *api.Config) { c.Batch = 1 }), with(func(c *api.Config) { c.Seqs[1] = 0 }), with(func(c *api.Config) { c.Sector = 513 })} {
		s := putConfig(t, c) + "\x02"
		if run, err := script.New(s); err != api.ErrRange || run != nil {
			t.Errorf("%+v: %d", c, err)
		}
		if got, err := script.Play(s); err != api.ErrRange || got != "" {
			t.Errorf("%+v: %d", c, err)
		}
	}
}

// P23.2: a run, entry by entry.
func TestRun(t *testing.T) {
	s := inBytes + "\x02\x09\x00\x00\x00\x00\x00\x00\x00\x00\x00\x64\x00\x01d\x01\x00\x01\x01\x02\x03\x00\x03\x01\x01"
	run, err := script.New(s)
	if err != api.OK {
		t.Fatal(err)
	}
	if run.World().Chains()[0].Height() != 5 || run.World().Chains()[1].Next() != 258 {
		t.Error("another world")
	}
	var replies []api.Reply
	want := []api.Reply{{}, {Err: api.ErrForm}, {Seq: 1}, {}, {}, {Count: 2}, {Codes: []api.Errno{api.OK}}, {Err: api.ErrNone}, {Err: api.ErrShort}}
	for i, w := range want {
		if run.Left() != len(want)-i {
			t.Errorf("%d are left of %d", run.Left(), len(want)-i)
		}
		got, ok := run.Step()
		if !ok || !sameReply(got, w) {
			t.Errorf("entry %d: %+v, %v, not %+v", i, got, ok, w)
		}
		replies = append(replies, got)
	}
	for range 2 {
		if got, ok := run.Step(); ok || !sameReply(got, api.Reply{}) || run.Left() != 0 {
			t.Errorf("behind all: %+v, %v", got, ok)
		}
	}
	if len(run.World().Flight()) != 1 || run.World().Chains()[0].Height() != 6 {
		t.Error("the world isn't the one that was asked")
	}
	if got, err := script.Play(s); err != api.OK || got != script.Bytes(replies...) {
		t.Errorf("%q, %d", got, err)
	}
	if got, err := script.Play(inBytes); err != api.OK || got != "" {
		t.Errorf("without entries: %q, %d", got, err)
	}
}

// draws is a row of numbers that hangs on its seed alone.
type draws uint64

func (d *draws) draw(n int) int {
	*d = *d*6364136223846793005 + 1442695040888963407
	return int(uint64(*d)>>33) % n
}

// act: whatever has bytes.
func (d *draws) act(w *world.World) api.Act {
	k := d.draw(2)
	switch d.draw(12) {
	case 0:
		return api.Act{Kind: api.ActSend, Chain: d.draw(3), Timeout: w.Chains()[1-k].Height() + uint64(d.draw(30)), Data: fmt.Sprint(d.draw(1000))}
	case 1, 2, 3:
		return api.Act{Kind: api.ActCommit, Chain: k}
	case 4, 5:
		return api.Act{Kind: api.ActStep}
	case 6:
		return api.Act{Kind: api.ActTwice - d.draw(2), N: d.draw(4)}
	case 7:
		m := api.Message{Kind: d.draw(6), To: d.draw(3), Proof: fmt.Sprint(d.draw(100))}
		if l := w.Flight(); len(l) > 0 {
			m = l[d.draw(len(l))]
			m.Packet.Timeout += uint64(d.draw(2))
		}
		return api.Act{Kind: api.ActForge, Message: m}
	case 8:
		return api.Act{Kind: api.ActFail, N: d.draw(6)}
	case 9:
		return api.Act{Kind: api.ActCrash, Writes: []api.Write{{Lasts: k == 0, Torn: d.draw(99)}, {Lasts: true}}}
	}
	return api.Act{Kind: api.ActDeliver, N: d.draw(2)}
}

// P0.1: acts that are asked, and acts that are run as bytes, come to the same; and P23.3: what is behind an entry plays no part.
func TestAskedAndRun(t *testing.T) {
	for seed := range 5 {
		d := draws(seed)
		w, err := world.New(config)
		if err != api.OK {
			t.Fatal(err)
		}
		s := putConfig(t, config)
		var replies []api.Reply
		cuts := []int{len(s)}
		for range 250 {
			a := d.act(w)
			s += put(t, a)
			replies = append(replies, w.Do(a))
			cuts = append(cuts, len(s))
		}
		want := script.Bytes(replies...)
		if got, err := script.Play(s); err != api.OK || got != want {
			t.Fatalf("run they come to something else: %d", err)
		}
		if got, _ := script.Play(s); got != want {
			t.Fatal("the second time they come to something else")
		}
		for _, n := range []int{0, 1, 100, 200} {
			got, err := script.Play(s[:cuts[n]])
			if err != api.OK || got != script.Bytes(replies[:n]...) || !strings.HasPrefix(want, got) {
				t.Fatalf("%d entries come to something else: %d", n, err)
			}
		}
		run, _ := script.New(s)
		for run.Left() > 0 {
			run.Step()
		}
		for k := range 2 {
			if !slices.Equal(run.World().Chains()[k].Map(), w.Chains()[k].Map()) {
				t.Error("maps")
			}
		}
		if !slices.Equal(run.World().State().Items, w.State().Items) || !slices.Equal(run.World().Flight(), w.Flight()) {
			t.Error("the worlds stand otherwise")
		}
	}
}

// P23.3: any bytes are entries; each that isn't wrong is put as it was.
func TestAnyBytes(t *testing.T) {
	for seed := range 200 {
		d := draws(seed)
		b := make([]byte, d.draw(300))
		for i := range b {
			b[i] = byte(d.draw(12))
		}
		again := ""
		l := script.Entries(string(b))
		for i, e := range l {
			switch e.Err {
			case api.OK:
				s := put(t, e.Act)
				if len(again)+len(s) > len(b) {
					t.Fatal("more than there was")
				}
				if e.Act.Kind != api.ActCrash && s != string(b[len(again):len(again)+len(s)]) {
					t.Fatalf("%+v: %q", e.Act, s)
				}
				again += s
			case api.ErrForm:
				again += string(b[len(again)])
			default:
				if e.Err != api.ErrShort || i != len(l)-1 {
					t.Fatalf("entry %d of %d: %d", i, len(l), e.Err)
				}
				again += string(b[len(again):])
			}
			if e.Err != api.OK && !same(e.Act, api.Act{}) {
				t.Fatalf("%+v", e)
			}
		}
		if len(again) != len(b) {
			t.Fatalf("%d bytes of %d", len(again), len(b))
		}
		if got, err := script.Play(inBytes + string(b)); err != api.OK || len(got) < 12*len(l) {
			t.Fatalf("%d bytes of %d replies, %d", len(got), len(l), err)
		}
	}
}
