package store_test

import (
	"fmt"
	"maps"
	"math"
	"slices"
	"strings"
	"testing"

	"carrack/api"
	"carrack/merkle"
	"carrack/store"
)

func set(t *testing.T, s *store.Store, key, value string) {
	t.Helper()
	if err := s.Set(key, value); err != api.OK {
		t.Fatalf("set %q: %d", key, err)
	}
}

func commit(t *testing.T, s *store.Store, want uint64) {
	t.Helper()
	if h, err := s.Commit(); h != want || err != api.OK || s.Height() != want {
		t.Fatalf("commit: %d, %d, height %d", h, err, s.Height())
	}
}

// block: what stands at a height is this map, by At and by Root.
func block(t *testing.T, s *store.Store, height uint64, want map[string]string) {
	t.Helper()
	var l []api.Pair
	for _, key := range slices.Sorted(maps.Keys(want)) {
		l = append(l, api.Pair{Key: key, Value: want[key]})
	}
	got, err := s.At(height)
	if err != api.OK || !slices.Equal(got, l) {
		t.Fatalf("at %d: %v, %d, not %v", height, got, err, l)
	}
	root, err := s.Root(height)
	if err != api.OK || root != merkle.Root(l) {
		t.Fatalf("root at %d: %x, %d", height, root, err)
	}
}

func none(t *testing.T, s *store.Store, heights ...uint64) {
	t.Helper()
	for _, height := range heights {
		if l, err := s.At(height); err != api.ErrNone || len(l) != 0 {
			t.Errorf("at %d: %v, %d", height, l, err)
		}
		if root, err := s.Root(height); err != api.ErrNone || root != "" {
			t.Errorf("root at %d: %x, %d", height, root, err)
		}
	}
}

// P11.1: a new store.
func TestNew(t *testing.T) {
	for _, h := range []uint64{0, 1, 5, 1 << 63, math.MaxUint64 - 1, math.MaxUint64} {
		s := store.New(h)
		if s.Height() != h || s.Blocks() != 1 || s.Len() != 0 {
			t.Errorf("%d: %d, %d, %d", h, s.Height(), s.Blocks(), s.Len())
		}
		block(t, s, h, nil)
		none(t, s, h+1, h-1, h+1<<40)
	}
}

// The document's example.
func TestExample(t *testing.T) {
	s := store.New(5)
	set(t, s, "a", "x")
	block(t, s, 5, nil)
	commit(t, s, 6)
	block(t, s, 6, map[string]string{"a": "x"})
	block(t, s, 5, nil)
	none(t, s, 4, 7)
}

// P11.1: keys and values.
func TestSetGetDelete(t *testing.T) {
	s := store.New(0)
	key, value := strings.Repeat("k", 17), strings.Repeat("v", 65)
	for _, c := range [][2]string{{"", ""}, {"", "x"}, {key, "x"}, {"a", value}, {key, value}} {
		if err := s.Set(c[0], c[1]); err != api.ErrRange || s.Len() != 0 {
			t.Errorf("%q: %d", c, err)
		}
	}
	for _, c := range [][2]string{{key[:16], value[:64]}, {"a", ""}, {"\x00", "\x00"}, {"a", "b"}, {"a", "c"}} {
		set(t, s, c[0], c[1])
		if got, ok := s.Get(c[0]); got != c[1] || !ok {
			t.Errorf("%q: %q, %v", c, got, ok)
		}
	}
	if s.Len() != 3 {
		t.Error(s.Len())
	}
	for _, k := range []string{"b", "", key, "A"} {
		if got, ok := s.Get(k); got != "" || ok {
			t.Errorf("%q: %q, %v", k, got, ok)
		}
		if err := s.Delete(k); err != api.ErrNone || s.Len() != 3 {
			t.Errorf("%q: %d", k, err)
		}
	}
	if err := s.Delete("a"); err != api.OK || s.Len() != 2 {
		t.Error(err)
	}
	if got, ok := s.Get("a"); got != "" || ok {
		t.Error("it is there still")
	}
	if err := s.Delete("a"); err != api.ErrNone {
		t.Error(err)
	}
	set(t, s, "a", "again")
	commit(t, s, 1)
	block(t, s, 1, map[string]string{key[:16]: value[:64], "\x00": "\x00", "a": "again"})
}

// P11.1: no more than 4096 keys.
func TestFullOfKeys(t *testing.T) {
	s := store.New(0)
	for i := range 4096 {
		set(t, s, fmt.Sprint(i), "x")
	}
	if err := s.Set("new", "x"); err != api.ErrFull || s.Len() != 4096 {
		t.Error(err)
	}
	if err := s.Set("", "x"); err != api.ErrRange {
		t.Error(err)
	}
	if err := s.Set(strings.Repeat("k", 17), "x"); err != api.ErrRange {
		t.Error(err)
	}
	set(t, s, "17", "another")
	if v, ok := s.Get("17"); v != "another" || !ok {
		t.Error(v)
	}
	if s.Delete("18") != api.OK {
		t.Error("delete")
	}
	set(t, s, "new", "x")
	if err := s.Set("18", "x"); err != api.ErrFull {
		t.Error(err)
	}
	commit(t, s, 1)
	if l, err := s.At(1); err != api.OK || len(l) != 4096 || merkle.Check(l) != api.OK {
		t.Errorf("%d, %d", len(l), err)
	}
}

// P11.2: heights don't wrap.
func TestCommitOver(t *testing.T) {
	s := store.New(math.MaxUint64 - 1)
	set(t, s, "a", "x")
	commit(t, s, math.MaxUint64)
	set(t, s, "b", "x")
	for range 3 {
		if h, err := s.Commit(); h != 0 || err != api.ErrOver || s.Height() != math.MaxUint64 || s.Blocks() != 2 {
			t.Errorf("%d, %d", h, err)
		}
	}
	block(t, s, math.MaxUint64, map[string]string{"a": "x"})
	block(t, s, math.MaxUint64-1, nil)
	none(t, s, 0, 1, math.MaxUint64-2)
}

// P11.2: no more than 4096 blocks.
func TestFullOfBlocks(t *testing.T) {
	s := store.New(10)
	for i := range 4095 {
		if i == 2000 {
			set(t, s, "a", "x")
		}
		commit(t, s, uint64(11+i))
	}
	set(t, s, "b", "x")
	if h, err := s.Commit(); h != 0 || err != api.ErrFull || s.Height() != 4105 || s.Blocks() != 4096 {
		t.Errorf("%d, %d", h, err)
	}
	block(t, s, 10, nil)
	block(t, s, 2010, nil)
	block(t, s, 2011, map[string]string{"a": "x"})
	block(t, s, 4105, map[string]string{"a": "x"})
	none(t, s, 9, 4106, math.MaxUint64)
	s = store.New(math.MaxUint64 - 4095)
	for s.Height() != math.MaxUint64 {
		if _, err := s.Commit(); err != api.OK {
			t.Fatal(err)
		}
	}
	if _, err := s.Commit(); err != api.ErrOver {
		t.Errorf("both: %d", err)
	}
}

// P11.3: what is set or deleted behind a commit changes no block; answers are new.
func TestBlocksStay(t *testing.T) {
	s := store.New(100)
	now := map[string]string{}
	was := []map[string]string{{}}
	x := uint32(3)
	for i := range 300 {
		x = x*1664525 + 1013904223
		key := fmt.Sprint(x >> 16 % 23)
		switch x >> 27 % 4 {
		case 0:
			if _, there := now[key]; (s.Delete(key) == api.OK) != there {
				t.Fatal("delete")
			}
			delete(now, key)
		case 3:
			commit(t, s, uint64(100+len(was)))
			was = append(was, maps.Clone(now))
		default:
			set(t, s, key, fmt.Sprint(i))
			now[key] = fmt.Sprint(i)
		}
		if s.Len() != len(now) || s.Blocks() != len(was) {
			t.Fatalf("%d keys, %d blocks", s.Len(), s.Blocks())
		}
	}
	for i, want := range was {
		block(t, s, uint64(100+i), want)
	}
	last := uint64(100 + len(was) - 1)
	l, _ := s.At(last)
	for i := range l {
		l[i] = api.Pair{Key: "spoilt"}
	}
	block(t, s, last, was[len(was)-1])
}

// P11.3: two stores have nothing in common.
func TestStoresAreApart(t *testing.T) {
	a, b := store.New(0), store.New(0)
	set(t, a, "a", "x")
	commit(t, a, 1)
	if b.Len() != 0 || b.Height() != 0 {
		t.Error("shared")
	}
	set(t, a, "a", "y")
	block(t, a, 1, map[string]string{"a": "x"})
	commit(t, a, 2)
	commit(t, a, 3)
	if a.Delete("a") != api.OK {
		t.Error("delete")
	}
	block(t, a, 2, map[string]string{"a": "y"})
	block(t, a, 3, map[string]string{"a": "y"})
}
