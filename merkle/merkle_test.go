package merkle_test

import (
	"crypto/sha256"
	"fmt"
	"math"
	"slices"
	"strings"
	"testing"

	"carrack/api"
	"carrack/merkle"
)

func sum(s string) string {
	d := sha256.Sum256([]byte(s))
	return string(d[:])
}

func leaf(p api.Pair) string {
	return sum("\x00" + string([]byte{byte(len(p.Key))}) + p.Key + string([]byte{byte(len(p.Value))}) + p.Value)
}

// tree: the digest of several, told as the document says it.
func tree(l []api.Pair) string {
	if len(l) == 1 {
		return leaf(l[0])
	}
	k := 1
	for 2*k < len(l) {
		k *= 2
	}
	return sum("\x01" + tree(l[:k]) + tree(l[k:]))
}

func top(n uint64, digest string) string {
	b := []byte{2}
	for shift := 56; shift >= 0; shift -= 8 {
		b = append(b, byte(n>>shift))
	}
	return sum(string(b) + digest)
}

func root(l []api.Pair) string {
	if len(l) == 0 {
		return top(0, "")
	}
	return top(uint64(len(l)), tree(l))
}

func pairs(n int) []api.Pair {
	l := make([]api.Pair, n)
	for i := range l {
		l[i] = api.Pair{Key: fmt.Sprintf("k%04d", i), Value: strings.Repeat("v", i%65)}
	}
	return l
}

// P8.1: what is a map.
func TestCheck(t *testing.T) {
	key := strings.Repeat("k", 17)
	value := strings.Repeat("v", 65)
	for _, c := range []struct {
		name string
		l    []api.Pair
		want api.Errno
	}{
		{"empty", nil, api.OK},
		{"one", []api.Pair{{Key: "a"}}, api.OK},
		{"rising", []api.Pair{{Key: "a"}, {Key: "aa"}, {Key: "b"}, {Key: "\xff"}}, api.OK},
		{"the longest", []api.Pair{{Key: key[:16], Value: value[:64]}}, api.OK},
		{"no key", []api.Pair{{Value: "x"}}, api.ErrRange},
		{"long key", []api.Pair{{Key: key}}, api.ErrRange},
		{"long value", []api.Pair{{Key: "a", Value: value}}, api.ErrRange},
		{"twice", []api.Pair{{Key: "a", Value: "1"}, {Key: "a", Value: "2"}}, api.ErrOrder},
		{"falling", []api.Pair{{Key: "b"}, {Key: "a"}}, api.ErrOrder},
		{"falling behind", []api.Pair{{Key: "a"}, {Key: "c"}, {Key: "b"}}, api.ErrOrder},
		{"bytes without a sign", []api.Pair{{Key: "\xff"}, {Key: "a"}}, api.ErrOrder},
		{"both", []api.Pair{{Key: "b"}, {Key: "a"}, {Key: key}}, api.ErrRange},
		{"most", pairs(4096), api.OK},
		{"too many", pairs(4097), api.ErrRange},
		{"too many, twice", make([]api.Pair, 4097), api.ErrRange},
	} {
		if got := merkle.Check(c.l); got != c.want {
			t.Errorf("%s: %d", c.name, got)
		}
	}
}

// P8.1: digests of leaves, whatever is handed in.
func TestLeaf(t *testing.T) {
	for _, p := range []api.Pair{{}, {Key: "a", Value: "b"}, {Key: "ab"}, {Value: "ab"}, {Key: strings.Repeat("k", 255), Value: strings.Repeat("v", 256)}, {Key: strings.Repeat("k", 300), Value: strings.Repeat("v", 1000)}} {
		if merkle.Leaf(p) != leaf(p) {
			t.Errorf("%d, %d", len(p.Key), len(p.Value))
		}
	}
}

// P8.1: roots, of maps and of what isn't one.
func TestRoot(t *testing.T) {
	for _, n := range []int{0, 1, 2, 3, 4, 5, 6, 7, 8, 9, 15, 16, 17, 31, 32, 33, 64, 65, 100, 1000, 4095, 4096, 4097} {
		if merkle.Root(pairs(n)) != root(pairs(n)) {
			t.Errorf("of %d", n)
		}
	}
	odd := []api.Pair{{Key: "b"}, {Key: "a"}, {}, {Key: strings.Repeat("k", 300)}, {Key: "a"}}
	if merkle.Root(odd) != root(odd) {
		t.Error("of what isn't a map")
	}
	if merkle.Root(nil) != sum("\x02"+strings.Repeat("\x00", 8)) {
		t.Error("of the empty map")
	}
}

// P8.1: tops.
func TestTop(t *testing.T) {
	for _, n := range []int{0, 1, 255, 256, 4096, 1 << 40, math.MaxInt} {
		for _, d := range []string{"", "x", sum("x"), strings.Repeat("y", 100)} {
			if merkle.Top(n, d) != top(uint64(n), d) {
				t.Errorf("%d, %q", n, d)
			}
		}
	}
	for _, n := range []int{-1, -256, math.MinInt} {
		if merkle.Top(n, "x") != top(0, "x") {
			t.Errorf("%d doesn't count as 0", n)
		}
	}
}

// P8.2 and P8.3: each pair climbs by its path; the path is the document's.
func TestPathAndClimb(t *testing.T) {
	for n := range 70 {
		l := pairs(n)
		for i := range l {
			path := merkle.Path(l, i)
			got, ok := merkle.Climb(api.Leaf{Index: i, Count: n, Pair: l[i], Path: path})
			if !ok || got != root(l) {
				t.Fatalf("%d of %d doesn't climb to the root", i, n)
			}
		}
	}
	for _, n := range []int{4095, 4096} {
		l := pairs(n)
		for _, i := range []int{0, 1, 2047, 2048, n - 2, n - 1} {
			got, ok := merkle.Climb(api.Leaf{Index: i, Count: n, Pair: l[i], Path: merkle.Path(l, i)})
			if !ok || got != root(l) {
				t.Fatalf("%d of %d doesn't climb to the root", i, n)
			}
		}
	}
	l := pairs(5)
	for i, want := range [][]string{
		{leaf(l[1]), tree(l[2:4]), leaf(l[4])},
		{leaf(l[0]), tree(l[2:4]), leaf(l[4])},
		{leaf(l[3]), tree(l[0:2]), leaf(l[4])},
		{leaf(l[2]), tree(l[0:2]), leaf(l[4])},
		{tree(l[:4])},
	} {
		if got := merkle.Path(l, i); !slices.Equal(got, want) {
			t.Errorf("path of %d of 5", i)
		}
	}
}

// P8.2: no path of what isn't there.
func TestPathOfNone(t *testing.T) {
	for _, i := range []int{-1, 3, math.MaxInt, math.MinInt} {
		if got := merkle.Path(pairs(3), i); len(got) != 0 {
			t.Errorf("%d: %d", i, len(got))
		}
	}
	if len(merkle.Path(nil, 0)) != 0 || len(merkle.Path(pairs(1), 0)) != 0 || len(merkle.Path(pairs(1), 1)) != 0 {
		t.Error("of none or one")
	}
}

// P8.2: leaves that climb nowhere.
func TestClimbWrong(t *testing.T) {
	l := pairs(5)
	path := merkle.Path(l, 0)
	short := []string{path[0], path[1], path[2][:31]}
	long := []string{path[0], path[1] + "x", path[2]}
	for _, c := range []struct {
		name string
		leaf api.Leaf
	}{
		{"count 0", api.Leaf{Index: 0, Count: 0, Pair: l[0]}},
		{"count below 0", api.Leaf{Index: 0, Count: -5, Pair: l[0], Path: path}},
		{"least count", api.Leaf{Index: math.MinInt, Count: math.MinInt, Pair: l[0]}},
		{"count 4097", api.Leaf{Index: 4096, Count: 4097, Pair: l[0], Path: path[:1]}},
		{"greatest count", api.Leaf{Index: 0, Count: math.MaxInt, Pair: l[0], Path: make([]string, 63)}},
		{"index below 0", api.Leaf{Index: -1, Count: 5, Pair: l[0], Path: path}},
		{"index behind", api.Leaf{Index: 5, Count: 5, Pair: l[0], Path: path}},
		{"no path", api.Leaf{Index: 0, Count: 5, Pair: l[0]}},
		{"short path", api.Leaf{Index: 0, Count: 5, Pair: l[0], Path: path[:2]}},
		{"long path", api.Leaf{Index: 0, Count: 5, Pair: l[0], Path: append(slices.Clone(path), path[0])}},
		{"a path of one", api.Leaf{Index: 0, Count: 1, Pair: l[0], Path: path[:1]}},
		{"the last one's path is short", api.Leaf{Index: 4, Count: 5, Pair: l[0], Path: path}},
		{"a short digest", api.Leaf{Index: 0, Count: 5, Pair: l[0], Path: short}},
		{"a long digest", api.Leaf{Index: 0, Count: 5, Pair: l[0], Path: long}},
		{"an empty digest", api.Leaf{Index: 0, Count: 2, Pair: l[0], Path: []string{""}}},
	} {
		if got, ok := merkle.Climb(c.leaf); ok || got != "" {
			t.Errorf("%s: it climbs", c.name)
		}
	}
	p := api.Pair{Key: strings.Repeat("k", 300)}
	if got, ok := merkle.Climb(api.Leaf{Count: 1, Pair: p}); !ok || got != root([]api.Pair{p}) {
		t.Error("a pair isn't looked at")
	}
}

// P8.3: what isn't a pair of the map, at its place, doesn't climb to its root.
func TestNothingElseClimbs(t *testing.T) {
	for n := 1; n < 12; n++ {
		l := pairs(n)
		want := root(l)
		for i := range l {
			path := merkle.Path(l, i)
			for k := -1; k <= n; k++ {
				for count := 1; count <= n+1; count++ {
					for j := range l {
						got, ok := merkle.Climb(api.Leaf{Index: k, Count: count, Pair: l[j], Path: path})
						if ok && got == want && (k != i || count != n || j != i) {
							t.Fatalf("%d at %d of %d climbs to the root of %d", j, k, count, n)
						}
					}
				}
			}
		}
	}
	seen := map[string]bool{}
	for n := range 40 {
		for _, l := range [][]api.Pair{pairs(n), append(pairs(n), api.Pair{Key: "z"})} {
			if r := merkle.Root(l); seen[r] {
				t.Errorf("two maps of %d have one root", n)
			} else {
				seen[r] = true
			}
		}
	}
}
