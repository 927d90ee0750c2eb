package wire_test

import (
	"math"
	"strings"
	"testing"

	"carrack/api"
	"carrack/wire"
)

func bytesOf(t *testing.T, w *wire.Writer) string {
	t.Helper()
	s, err := w.Bytes()
	if err != api.OK {
		t.Fatalf("error %d", err)
	}
	return s
}

// P3.1: what is written, as the document says it.
func TestWrite(t *testing.T) {
	var w wire.Writer
	if got := bytesOf(t, &w); got != "" {
		t.Errorf("the zero Writer: %x", got)
	}
	w.Byte(3)
	w.Text("ab")
	w.Number(258)
	if got := bytesOf(t, &w); got != "\x03\x00\x02ab\x00\x00\x00\x00\x00\x00\x01\x02" {
		t.Errorf("example: %x", got)
	}
	w.Raw("xyz")
	w.Raw("")
	w.Text("")
	w.Byte(0)
	w.Byte(255)
	w.Number(0x0102030405060708)
	w.Number(math.MaxUint64)
	want := "\x03\x00\x02ab\x00\x00\x00\x00\x00\x00\x01\x02xyz\x00\x00\x00\xff\x01\x02\x03\x04\x05\x06\x07\x08" + strings.Repeat("\xff", 8)
	if got := bytesOf(t, &w); got != want {
		t.Errorf("%x", got)
	}
	if got := bytesOf(t, &w); got != want {
		t.Error("told twice it is another one")
	}
}

// P3.1: what doesn't fit is remembered.
func TestWriteWhatDoesNotFit(t *testing.T) {
	for _, n := range []int{-1, 256, math.MinInt, math.MaxInt, 1 << 32} {
		var w wire.Writer
		w.Raw("a")
		w.Byte(n)
		w.Byte(1)
		if s, err := w.Bytes(); err != api.ErrRange || s != "" {
			t.Errorf("byte %d: %q, %d", n, s, err)
		}
	}
	var w wire.Writer
	w.Text(strings.Repeat("x", 65536))
	w.Number(1)
	if s, err := w.Bytes(); err != api.ErrRange || s != "" {
		t.Errorf("long text: %d bytes, %d", len(s), err)
	}
	var v wire.Writer
	v.Text(strings.Repeat("x", 65535))
	if got := bytesOf(t, &v); got != "\xff\xff"+strings.Repeat("x", 65535) {
		t.Error("the longest text")
	}
	var u wire.Writer
	u.Raw(strings.Repeat("y", 70000))
	if got := bytesOf(t, &u); len(got) != 70000 {
		t.Error("raw bytes have no bound")
	}
}

// P3.2: what stands next.
func TestRead(t *testing.T) {
	r := wire.NewReader("\x03\x00\x02ab\x01\x02\x03\x04\x05\x06\x07\xffxyz\xfe")
	if r.Left() != 17 || r.Err() != api.OK || r.End() != api.ErrMore || r.Err() != api.OK {
		t.Error("ahead of all")
	}
	if got := r.Byte(); got != 3 || r.Left() != 16 {
		t.Error(got)
	}
	if got := r.Text(); got != "ab" || r.Left() != 12 {
		t.Errorf("%q", got)
	}
	if got := r.Number(); got != 0x01020304050607ff || r.Left() != 4 {
		t.Errorf("%x", got)
	}
	if got := r.Raw(0); got != "" || r.Left() != 4 {
		t.Errorf("%q", got)
	}
	if got := r.Raw(3); got != "xyz" || r.End() != api.ErrMore {
		t.Errorf("%q", got)
	}
	if got := r.Byte(); got != 254 || r.Left() != 0 || r.End() != api.OK || r.Err() != api.OK {
		t.Error(got)
	}
	if got := r.Raw(0); got != "" || r.End() != api.OK {
		t.Error("nothing is there to be read")
	}
}

// reads: each of the calls that may find too little.
var reads = []struct {
	name string
	s    string
	zero func(r *wire.Reader) bool
}{
	{"byte", "", func(r *wire.Reader) bool { return r.Byte() == 0 }},
	{"number", "\x01\x02\x03\x04\x05\x06\x07", func(r *wire.Reader) bool { return r.Number() == 0 }},
	{"number of nothing", "", func(r *wire.Reader) bool { return r.Number() == 0 }},
	{"length", "\x00", func(r *wire.Reader) bool { return r.Text() == "" }},
	{"no length", "", func(r *wire.Reader) bool { return r.Text() == "" }},
	{"text", "\x00\x03ab", func(r *wire.Reader) bool { return r.Text() == "" }},
	{"long text", "\xff\xffab", func(r *wire.Reader) bool { return r.Text() == "" }},
	{"raw", "abc", func(r *wire.Reader) bool { return r.Raw(4) == "" }},
	{"raw below 0", "abc", func(r *wire.Reader) bool { return r.Raw(-1) == "" }},
	{"raw far below 0", "abc", func(r *wire.Reader) bool { return r.Raw(math.MinInt) == "" }},
	{"raw of all", "abc", func(r *wire.Reader) bool { return r.Raw(math.MaxInt) == "" }},
}

// P3.2: what isn't all there; from then on all is zero.
func TestReadTooShort(t *testing.T) {
	for _, c := range reads {
		r := wire.NewReader(c.s)
		if !c.zero(r) || r.Err() != api.ErrShort || r.End() != api.ErrShort || r.Left() != 0 {
			t.Errorf("%s: %d, %d left", c.name, r.Err(), r.Left())
		}
		if r.Byte() != 0 || r.Number() != 0 || r.Text() != "" || r.Raw(0) != "" || r.Raw(1) != "" || r.Raw(-1) != "" {
			t.Errorf("%s: something is told behind the error", c.name)
		}
		r.Fail(api.ErrForm)
		if r.Err() != api.ErrShort {
			t.Errorf("%s: the first error isn't kept", c.name)
		}
	}
}

// P3.2: an error that is handed in.
func TestFail(t *testing.T) {
	r := wire.NewReader("\x07\x08\x00\x01a")
	r.Fail(api.OK)
	if r.Err() != api.OK || r.Byte() != 7 {
		t.Error("OK is no error")
	}
	r.Fail(api.ErrForm)
	r.Fail(api.ErrSum)
	r.Fail(api.OK)
	if r.Err() != api.ErrForm || r.End() != api.ErrForm || r.Left() != 0 {
		t.Error(r.Err())
	}
	if r.Byte() != 0 || r.Number() != 0 || r.Text() != "" || r.Raw(1) != "" || r.Err() != api.ErrForm {
		t.Error("something is told behind the error")
	}
}

// P3.3: what is written is read as it was, and the other way round.
func TestThereAndBack(t *testing.T) {
	numbers := []uint64{0, 1, 255, 256, 1 << 32, 1<<63 + 5, math.MaxUint64}
	texts := []string{"", "a", "\x00\xff", strings.Repeat("q", 255), strings.Repeat("q", 256), strings.Repeat("z", 65535)}
	var w wire.Writer
	for n := range 256 {
		w.Byte(n)
	}
	for _, n := range numbers {
		w.Number(n)
	}
	for _, s := range texts {
		w.Text(s)
		w.Raw(s)
	}
	all := bytesOf(t, &w)
	r := wire.NewReader(all)
	var again wire.Writer
	for n := range 256 {
		got := r.Byte()
		again.Byte(got)
		if got != n {
			t.Fatalf("byte %d: %d", n, got)
		}
	}
	for _, n := range numbers {
		got := r.Number()
		again.Number(got)
		if got != n {
			t.Errorf("number %d: %d", n, got)
		}
	}
	for _, s := range texts {
		got, raw := r.Text(), r.Raw(len(s))
		again.Text(got)
		again.Raw(raw)
		if got != s || raw != s {
			t.Errorf("text of %d: %d, %d", len(s), len(got), len(raw))
		}
	}
	if r.End() != api.OK || bytesOf(t, &again) != all {
		t.Error("written again it isn't the same")
	}
}
