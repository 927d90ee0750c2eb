package proof_test

import (
	"fmt"
	"math"
	"reflect"
	"strings"
	"testing"

	"carrack/api"
	"carrack/merkle"
	"carrack/proof"
)

func pairs(keys ...string) []api.Pair {
	l := make([]api.Pair, len(keys))
	for i, k := range keys {
		l[i] = api.Pair{Key: k, Value: "value of " + k}
	}
	return l
}

func numbered(n int) []api.Pair {
	l := make([]api.Pair, n)
	for i := range l {
		l[i] = api.Pair{Key: fmt.Sprintf("k%04d", 2*i+1), Value: fmt.Sprint(i)}
	}
	return l
}

// leaf: that one of a map, as the document says it.
func leaf(l []api.Pair, i int) api.Leaf {
	return api.Leaf{Index: i, Count: len(l), Pair: l[i], Path: merkle.Path(l, i)}
}

func bytesOf(t *testing.T, p api.Proof) string {
	t.Helper()
	s, err := proof.Bytes(p)
	if err != api.OK {
		t.Fatalf("bytes: %d", err)
	}
	return s
}

// plain: leaves whose empty paths are nil.
func plain(l []api.Leaf) []api.Leaf {
	var out []api.Leaf
	for _, k := range l {
		if len(k.Path) == 0 {
			k.Path = nil
		}
		out = append(out, k)
	}
	return out
}

// same: are two proofs alike? Nil and empty lists mean the same.
func same(a, b api.Proof) bool {
	return a.Absent == b.Absent && len(a.Leaves) == len(b.Leaves) && fmt.Sprintf("%#v", plain(a.Leaves)) == fmt.Sprintf("%#v", plain(b.Leaves))
}

var digest = strings.Repeat("d", 32)

// P9.1: a proof's bytes, one by one.
func TestBytes(t *testing.T) {
	p := api.Proof{Leaves: []api.Leaf{{Index: 3, Count: 4096, Pair: api.Pair{Key: "ab", Value: "c"}, Path: []string{digest, strings.Repeat("e", 32)}}}}
	want := "\x01\x01" + "\x00\x00\x00\x00\x00\x00\x00\x03" + "\x00\x00\x00\x00\x00\x00\x10\x00" + "\x00\x02ab\x00\x01c" + "\x02" + digest + strings.Repeat("e", 32)
	if got := bytesOf(t, p); got != want {
		t.Errorf("%q", got)
	}
	p = api.Proof{Absent: true, Leaves: []api.Leaf{{}, {Index: 4096}}}
	want = "\x02\x02" + strings.Repeat("\x00", 21) + strings.Repeat("\x00", 6) + "\x10" + strings.Repeat("\x00", 14)
	if got := bytesOf(t, p); got != want {
		t.Errorf("%q", got)
	}
	if bytesOf(t, api.Proof{}) != "\x01\x00" || bytesOf(t, api.Proof{Absent: true}) != "\x02\x00" {
		t.Error("without leaves")
	}
}

// P9.1: what has no bytes.
func TestBytesWrong(t *testing.T) {
	path := make([]string, 17)
	for i := range path {
		path[i] = digest
	}
	edge := api.Leaf{Index: 4096, Count: 4096, Pair: api.Pair{Key: strings.Repeat("k", 16), Value: strings.Repeat("v", 64)}, Path: path[:16]}
	bytesOf(t, api.Proof{Leaves: []api.Leaf{edge, edge}})
	for name, spoil := range map[string]func(*api.Leaf){
		"index above":   func(l *api.Leaf) { l.Index = 4097 },
		"index below":   func(l *api.Leaf) { l.Index = -1 },
		"index least":   func(l *api.Leaf) { l.Index = math.MinInt },
		"count above":   func(l *api.Leaf) { l.Count = 4097 },
		"count below":   func(l *api.Leaf) { l.Count = -1 },
		"long key":      func(l *api.Leaf) { l.Pair.Key += "k" },
		"long value":    func(l *api.Leaf) { l.Pair.Value += "v" },
		"long path":     func(l *api.Leaf) { l.Path = path },
		"short digest":  func(l *api.Leaf) { l.Path = []string{digest[:31]} },
		"long digest":   func(l *api.Leaf) { l.Path = []string{digest, digest + "x"} },
		"empty digest":  func(l *api.Leaf) { l.Path = []string{""} },
		"of wrong size": func(l *api.Leaf) { l.Path = []string{digest + digest} },
	} {
		bad := edge
		spoil(&bad)
		for _, l := range [][]api.Leaf{{bad}, {bad, edge}, {edge, bad}} {
			for _, absent := range []bool{false, true} {
				if s, err := proof.Bytes(api.Proof{Absent: absent, Leaves: l}); err != api.ErrRange || s != "" {
					t.Errorf("%s: %d", name, err)
				}
			}
		}
	}
	if s, err := proof.Bytes(api.Proof{Leaves: []api.Leaf{edge, edge, edge}}); err != api.ErrRange || s != "" {
		t.Errorf("three leaves: %d", err)
	}
}

// P9.1: proofs are parsed as they were.
func TestParse(t *testing.T) {
	l := numbered(9)
	for _, p := range []api.Proof{
		{}, {Absent: true}, {Leaves: []api.Leaf{leaf(l, 4)}}, {Leaves: []api.Leaf{leaf(l, 8), leaf(l, 0)}},
		{Absent: true, Leaves: []api.Leaf{leaf(l, 4), leaf(l, 5)}}, {Absent: true, Leaves: []api.Leaf{{}}},
		{Leaves: []api.Leaf{{Index: 4096, Count: 0, Pair: api.Pair{Value: strings.Repeat("v", 64)}}}},
	} {
		s := bytesOf(t, p)
		got, err := proof.Parse(s)
		if err != api.OK || !same(got, p) {
			t.Errorf("%q: %v, %d", s, got, err)
		}
		for i := range len(s) {
			if got, err := proof.Parse(s[:i]); err != api.ErrForm || !reflect.DeepEqual(got, api.Proof{}) {
				t.Fatalf("cut at %d it is parsed", i)
			}
		}
		if _, err := proof.Parse(s + "\x00"); err != api.ErrForm {
			t.Error("something behind it")
		}
	}
}

// P9.1: what is no proof's bytes.
func TestParseWrong(t *testing.T) {
	number := func(n uint64) string {
		b := ""
		for shift := 56; shift >= 0; shift -= 8 {
			b += string([]byte{byte(n >> shift)})
		}
		return b
	}
	one := func(index, count uint64, rest string) string {
		return "\x01\x01" + number(index) + number(count) + rest
	}
	good := "\x00\x01k\x00\x01v\x00"
	if _, err := proof.Parse(one(1, 2, good)); err != api.OK {
		t.Fatal(err)
	}
	many := ""
	for range 255 {
		many += digest
	}
	for name, s := range map[string]string{
		"nothing":         "",
		"kind 0":          "\x00" + one(1, 2, good)[1:],
		"kind 3":          "\x03" + one(1, 2, good)[1:],
		"kind 0 alone":    "\x00\x00",
		"three leaves":    "\x02\x03" + strings.Repeat(one(1, 2, good)[2:], 3),
		"all leaves":      "\x02\xff" + strings.Repeat(one(1, 2, good)[2:], 255),
		"index above":     one(4097, 2, good),
		"index 2^63":      one(1<<63, 2, good),
		"index 2^64 - 1":  one(math.MaxUint64, 2, good),
		"index 2^32":      one(1<<32, 2, good),
		"count above":     one(1, 4097, good),
		"count 2^64 - 1":  one(1, math.MaxUint64, good),
		"long key":        one(1, 2, "\x00\x11"+strings.Repeat("k", 17)+"\x00\x01v\x00"),
		"long value":      one(1, 2, "\x00\x01k\x00\x41"+strings.Repeat("v", 65)+"\x00"),
		"17 digests":      one(1, 2, "\x00\x01k\x00\x01v\x11"+many[:17*32]),
		"255 digests":     one(1, 2, "\x00\x01k\x00\x01v\xff"+many),
		"short of digest": one(1, 2, "\x00\x01k\x00\x01v\x01"+digest[:31]),
	} {
		if p, err := proof.Parse(s); err != api.ErrForm || !reflect.DeepEqual(p, api.Proof{}) {
			t.Errorf("%s: %d", name, err)
		}
	}
}

// P9.2: the proofs of a map.
func TestPresentAndAbsent(t *testing.T) {
	for _, n := range []int{0, 1, 2, 3, 4, 5, 8, 9, 31, 32, 33} {
		l := numbered(n)
		for k := range 2*n + 1 {
			key := fmt.Sprintf("k%04d", k)
			i := k / 2
			got, err := proof.Present(l, key)
			gone, err2 := proof.Absent(l, key)
			if k%2 == 1 {
				if err != api.OK || !same(got, api.Proof{Leaves: []api.Leaf{leaf(l, i)}}) {
					t.Fatalf("%s of %d: %v, %d", key, n, got, err)
				}
				if err2 != api.ErrTwice || !reflect.DeepEqual(gone, api.Proof{}) {
					t.Fatalf("%s of %d is absent: %d", key, n, err2)
				}
				continue
			}
			if err != api.ErrNone || !reflect.DeepEqual(got, api.Proof{}) {
				t.Fatalf("%s of %d is present: %d", key, n, err)
			}
			want := api.Proof{Absent: true}
			if i > 0 {
				want.Leaves = append(want.Leaves, leaf(l, i-1))
			}
			if i < n {
				want.Leaves = append(want.Leaves, leaf(l, i))
			}
			if err2 != api.OK || !same(gone, want) {
				t.Fatalf("%s of %d: %v, %d", key, n, gone, err2)
			}
		}
	}
}

// P9.2: keys that may not be.
func TestKeys(t *testing.T) {
	l := pairs("a", "c")
	long := strings.Repeat("b", 17)
	for _, key := range []string{"", long} {
		if p, err := proof.Absent(l, key); err != api.ErrRange || !reflect.DeepEqual(p, api.Proof{}) {
			t.Errorf("%q: %d", key, err)
		}
		if p, err := proof.Present(l, key); err != api.ErrNone || !reflect.DeepEqual(p, api.Proof{}) {
			t.Errorf("%q: %d", key, err)
		}
		if proof.Lacks(merkle.Root(l), bytesOf(t, api.Proof{Absent: true, Leaves: []api.Leaf{leaf(l, 0)}}), key) {
			t.Errorf("%q is lacked", key)
		}
		if proof.Lacks(merkle.Root(l), bytesOf(t, api.Proof{Absent: true, Leaves: []api.Leaf{leaf(l, 0), leaf(l, 1)}}), key) {
			t.Errorf("%q is lacked, by two", key)
		}
		if proof.Lacks(merkle.Root(nil), bytesOf(t, api.Proof{Absent: true}), key) {
			t.Errorf("%q is lacked by the empty map", key)
		}
	}
	if p, err := proof.Absent(l, long[:16]); err != api.OK || !proof.Lacks(merkle.Root(l), bytesOf(t, p), long[:16]) {
		t.Error("the longest key")
	}
}

// P9.3: the proofs of a map prove it.
func TestHasAndLacks(t *testing.T) {
	for _, n := range []int{0, 1, 2, 3, 5, 16, 17} {
		l := numbered(n)
		root := merkle.Root(l)
		for k := range 2*n + 1 {
			key := fmt.Sprintf("k%04d", k)
			if k%2 == 0 {
				p, _ := proof.Absent(l, key)
				s := bytesOf(t, p)
				if !proof.Lacks(root, s, key) || proof.Has(root, s, key, "") {
					t.Fatalf("%s of %d isn't lacked", key, n)
				}
				continue
			}
			p, _ := proof.Present(l, key)
			s, value := bytesOf(t, p), l[k/2].Value
			if !proof.Has(root, s, key, value) || proof.Lacks(root, s, key) {
				t.Fatalf("%s of %d isn't had", key, n)
			}
			if proof.Has(root, s, key, value+"x") || proof.Has(root, s, key, "") || proof.Has(root, s, key+"x", value) || proof.Has(root, s, "", value) || proof.Has(root, s, fmt.Sprintf("k%04d", k+2), value) {
				t.Fatalf("%s of %d: another pair is had", key, n)
			}
			if proof.Has(merkle.Root(numbered(n+1)), s, key, value) || proof.Has("", s, key, value) || proof.Has(root[:31], s, key, value) {
				t.Fatalf("%s of %d: another root has it", key, n)
			}
		}
	}
}

// P9.3: proofs of the wrong form.
func TestFormsOfProofs(t *testing.T) {
	l := pairs("b", "d", "f")
	root := merkle.Root(l)
	prove := func(absent bool, leaves ...api.Leaf) string {
		return bytesOf(t, api.Proof{Absent: absent, Leaves: leaves})
	}
	a, b, c := leaf(l, 0), leaf(l, 1), leaf(l, 2)
	if proof.Has(root, prove(true, a), "b", "value of b") || proof.Has(root, prove(false, a, a), "b", "value of b") || proof.Has(root, prove(false), "b", "value of b") || proof.Has(root, "", "b", "value of b") || proof.Has(root, prove(false, a)+"x", "b", "value of b") || proof.Has(root, prove(false, a, b), "b", "value of b") {
		t.Error("had by a proof of another form")
	}
	for _, k := range []struct {
		name, s, key string
		want         bool
	}{
		{"ahead of the first", prove(true, a), "a", true},
		{"behind the last", prove(true, c), "g", true},
		{"between", prove(true, a, b), "c", true},
		{"between", prove(true, b, c), "e", true},
		{"it is there", prove(true, a), "b", false},
		{"it is there, the last", prove(true, c), "f", false},
		{"it is the lower one", prove(true, a, b), "b", false},
		{"it is the higher one", prove(true, a, b), "d", false},
		{"behind the first", prove(true, a), "c", false},
		{"ahead of the last", prove(true, c), "e", false},
		{"one in the midst", prove(true, b), "c", false},
		{"one in the midst", prove(true, b), "a", false},
		{"one in the midst", prove(true, b), "g", false},
		{"one is between", prove(true, a, c), "c", false},
		{"one is between", prove(true, a, c), "d", false},
		{"turned round", prove(true, b, a), "c", false},
		{"the same twice", prove(true, a, a), "c", false},
		{"not between", prove(true, a, b), "e", false},
		{"not between", prove(true, a, b), "a", false},
		{"not absent", prove(false, a, b), "c", false},
		{"not absent", prove(false, a), "a", false},
		{"without leaves", prove(true), "a", false},
		{"nothing", "", "a", false},
		{"cut", prove(true, a)[1:], "a", false},
		{"more", prove(true, a) + "\x00", "a", false},
	} {
		if got := proof.Lacks(root, k.s, k.key); got != k.want {
			t.Errorf("%s: %s: %v", k.name, k.key, got)
		}
	}
	if !proof.Lacks(merkle.Root(nil), prove(true), "a") || proof.Lacks(merkle.Root(nil), prove(false), "a") || proof.Lacks(merkle.Root(nil), prove(true, a), "a") {
		t.Error("of the empty map")
	}
}

// P9.4: whatever leaves prove it, what is there isn't lacked; spoilt bytes prove nothing else.
func TestNothingFalseIsProved(t *testing.T) {
	l := pairs("b", "d", "f", "h", "j")
	root := merkle.Root(l)
	var leaves []api.Leaf
	for i := range l {
		for index := range 6 {
			for count := 4; count < 7; count++ {
				k := leaf(l, i)
				k.Index, k.Count = index, count
				leaves = append(leaves, k)
			}
		}
	}
	for _, a := range leaves {
		for _, p := range l {
			if proof.Lacks(root, bytesOf(t, api.Proof{Absent: true, Leaves: []api.Leaf{a}}), p.Key) {
				t.Fatalf("%s is lacked by %v", p.Key, a)
			}
		}
		for _, b := range leaves {
			s := bytesOf(t, api.Proof{Absent: true, Leaves: []api.Leaf{a, b}})
			for _, p := range l[1:3] {
				if proof.Lacks(root, s, p.Key) {
					t.Fatalf("%s is lacked by %v and %v", p.Key, a, b)
				}
			}
		}
	}
	p, _ := proof.Present(l, "d")
	q, _ := proof.Absent(l, "e")
	has, lacks := bytesOf(t, p), bytesOf(t, q)
	for i := range max(len(has), len(lacks)) {
		for _, x := range []byte{1, 2, 3, 0x80, 0xff} {
			if i < len(has) {
				s := has[:i] + string([]byte{has[i] ^ x}) + has[i+1:]
				if proof.Has(root, s, "d", "value of d") || proof.Lacks(root, s, "d") {
					t.Fatalf("had, spoilt at %d", i)
				}
			}
			if i < len(lacks) {
				s := lacks[:i] + string([]byte{lacks[i] ^ x}) + lacks[i+1:]
				if proof.Lacks(root, s, "e") || proof.Lacks(root, s, "d") || proof.Lacks(root, s, "f") {
					t.Fatalf("lacked, spoilt at %d", i)
				}
			}
		}
	}
}

// Answers share no memory.
func TestAnswersAreNew(t *testing.T) {
	l := numbered(8)
	p, _ := proof.Absent(l, "k0002")
	q, _ := proof.Absent(l, "k0002")
	p.Leaves[0].Path[0], p.Leaves[0].Pair.Key = "spoilt", "spoilt"
	if q.Leaves[0].Path[0] == "spoilt" || p.Leaves[1].Path[0] == "spoilt" || l[0].Key == "spoilt" || q.Leaves[0].Pair.Key == "spoilt" {
		t.Error("shared")
	}
}
