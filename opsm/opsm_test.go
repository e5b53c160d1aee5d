package opsm_test

import (
	"bytes"
	"math"
	"math/rand/v2"
	"slices"
	"strconv"
	"strings"
	"testing"

	"adit/api"
	"adit/opsm"
	"adit/proto"
	"adit/record"
	"adit/text"
	"adit/vstore"
)

// attempts is how many attempts a Batch has at most.
const attempts = api.MaxRetry + 1

// key is a key of a number, whose bytes stand as numbers do; of 0 it is the key of noughts.
func key(n int) api.Key { return api.Key{0: byte(n >> 8), 31: byte(n)} }

// route is the prefix of a number; of greater numbers they stand behind.
func route(n int) api.Prefix {
	return api.Prefix{Addr: api.Addr{B: [16]byte{10, byte(n >> 8), byte(n)}}, Bits: 24}
}

// routes are the prefixes of numbers from one on up to another one.
func routes(from, to int) []api.Prefix {
	var out []api.Prefix
	for n := from; n < to; n++ {
		out = append(out, route(n))
	}
	return out
}

// end is an end of a number.
func end(n int) api.End { return api.End{Addr: api.Addr{B: [16]byte{192, 0, 2, byte(n)}}, Port: 1 + n} }

// keep is a change.
func keep(n int) record.Change { return record.Change{Kind: record.SetKeep, Keep: n} }

// shared is a change.
func shared(n int) record.Change { return record.Change{Kind: record.SetShared, Key: key(n)} }

// at is a change that sets an end.
func at(n int) record.Change { return record.Change{Kind: record.SetEnd, End: end(n)} }

// plus is a change that adds a route.
func plus(n int) record.Change { return record.Change{Kind: record.AddRoute, Prefix: route(n)} }

// minus is a change that drops a route.
func minus(n int) record.Change { return record.Change{Kind: record.DropRoute, Prefix: route(n)} }

// pluses are changes that add routes.
func pluses(from, to int) []record.Change {
	var out []record.Change
	for n := from; n < to; n++ {
		out = append(out, plus(n))
	}
	return out
}

func add(n int, l ...record.Change) proto.Edit {
	return proto.Edit{Verb: proto.Add, Key: key(n), Changes: l}
}

func alter(n int, l ...record.Change) proto.Edit {
	return proto.Edit{Verb: proto.Alter, Key: key(n), Changes: l}
}

func drop(n int) proto.Edit { return proto.Edit{Verb: proto.Drop, Key: key(n)} }

func move(r, n int) proto.Edit {
	return proto.Edit{Verb: proto.Move, Prefix: route(r), Key: key(n)}
}

func roll(n, fresh int) proto.Edit {
	return proto.Edit{Verb: proto.Roll, Key: key(n), Fresh: key(fresh)}
}

// batch is a command of edits.
func batch(l ...proto.Edit) proto.Command { return proto.Command{Verb: proto.Batch, Edits: l} }

// show is a command.
func show(n int) proto.Command { return proto.Command{Verb: proto.Show, Key: key(n)} }

// dump is a command.
func dump(size int) proto.Command { return proto.Command{Verb: proto.Dump, Size: size} }

// bare is the peer of a number with all else 0, but for routes.
func bare(n int, l ...api.Prefix) record.Peer { return record.Peer{Public: key(n), Routes: l} }

// kept is the peer of a number with a Keep.
func kept(n, seconds int, l ...api.Prefix) record.Peer {
	return record.Peer{Public: key(n), Keep: seconds, Routes: l}
}

// full is the peer of a number in which everything counts.
func full(n int, l ...api.Prefix) record.Peer {
	return record.Peer{Public: key(n), Shared: key(1000 + n), HasEnd: true, End: end(n), Keep: 100 + n, Routes: l}
}

// commit commits peers to a store, as somebody else does.
func commit(t *testing.T, s *vstore.Store, l ...record.Peer) {
	t.Helper()
	var writes []vstore.Write
	for _, p := range l {
		writes = append(writes, vstore.Write{Peer: p})
	}
	if _, _, e := s.Commit(nil, writes); e != api.OK {
		t.Fatalf("Commit: %v", e)
	}
}

// remove takes peers away from a store, as somebody else does.
func remove(t *testing.T, s *vstore.Store, l ...int) {
	t.Helper()
	var writes []vstore.Write
	for _, n := range l {
		writes = append(writes, vstore.Write{Peer: record.Peer{Public: key(n)}, Gone: true})
	}
	if _, _, e := s.Commit(nil, writes); e != api.OK {
		t.Fatalf("Commit: %v", e)
	}
}

// stored is a store of peers, each of a version of its own.
func stored(t *testing.T, l ...record.Peer) *vstore.Store {
	t.Helper()
	s := vstore.New()
	for _, p := range l {
		commit(t, s, p)
	}
	return s
}

// start is an operation of a command.
func start(t *testing.T, c proto.Command) *opsm.Op {
	t.Helper()
	o, e := opsm.Start(c)
	if e != api.OK || o == nil {
		t.Fatalf("Start: %v", e)
	}
	return o
}

// goesOn holds that an operation does so many steps without an end.
func goesOn(t *testing.T, o *opsm.Op, s *vstore.Store, n int) {
	t.Helper()
	for range n {
		was := o.Steps()
		if o.Step(s) || o.Done() || o.Steps() != was+1 {
			t.Fatalf("step %d: ended with %v", o.Steps(), o.Result())
		}
		if r := o.Result(); r.E != api.ErrState || len(r.Words) != 0 || len(o.Events()) != 0 {
			t.Fatalf("step %d: %v %v", o.Steps(), r, o.Events())
		}
	}
}

// ended holds that an operation has ended with an error or words, in so many steps, and does nothing more.
func ended(t *testing.T, o *opsm.Op, s *vstore.Store, steps int, e api.Errno, words ...string) {
	t.Helper()
	version := s.Version()
	for range 3 {
		if r := o.Result(); !o.Done() || o.Steps() != steps || r.E != e || !slices.Equal(r.Words, words) {
			t.Fatalf("%v in %d steps: %v, want %v %v in %d", o.Done(), o.Steps(), r, e, words, steps)
		}
		if !o.Step(s) {
			t.Fatal("a step behind the end tells that it has not ended")
		}
	}
	if s.Version() != version {
		t.Error("a step behind the end commits")
	}
}

// ends holds that an operation's next step ends it.
func ends(t *testing.T, o *opsm.Op, s *vstore.Store, e api.Errno, words ...string) {
	t.Helper()
	steps := o.Steps()
	if !o.Step(s) {
		t.Fatalf("step %d: not ended, want %v %v", steps+1, e, words)
	}
	ended(t, o, s, steps+1, e, words...)
}

// runs holds what a command ends with, in so many steps, with nothing between.
func runs(t *testing.T, s *vstore.Store, c proto.Command, steps int, e api.Errno, words ...string) *opsm.Op {
	t.Helper()
	o := start(t, c)
	goesOn(t, o, s, steps-1)
	ends(t, o, s, e, words...)
	return o
}

// version is the word of a version.
func version(n uint64) string { return "version=" + strconv.FormatUint(n, 10) }

// event is what became of a number's peer by a version.
func event(kind, n int, version uint64) vstore.Event {
	return vstore.Event{Kind: kind, Key: key(n), Version: version}
}

// told holds an operation's events.
func told(t *testing.T, o *opsm.Op, want ...vstore.Event) {
	t.Helper()
	if l := o.Events(); !slices.Equal(l, want) {
		t.Errorf("events %v, want %v", l, want)
	}
}

// has holds which peers a store has, by rising keys, and its version.
func has(t *testing.T, s *vstore.Store, version uint64, l ...record.Peer) {
	t.Helper()
	if s.Version() != version {
		t.Errorf("version %d, want %d", s.Version(), version)
	}
	var keys []api.Key
	for _, p := range l {
		keys = append(keys, p.Public)
		if got, _, there := s.Get(p.Public); !there || !record.Same(got, p) {
			t.Errorf("%v, want %v", got, p)
		}
	}
	if got := s.Keys(); !slices.Equal(got, keys) {
		t.Errorf("keys %v, want %v", got, keys)
	}
}

// written holds in which version a number's peer was written last; 0: there is none.
func written(t *testing.T, s *vstore.Store, n int, want uint64) {
	t.Helper()
	if _, v, there := s.Get(key(n)); v != want || there != (want > 0) {
		t.Errorf("%d: version %d, want %d", n, v, want)
	}
}

// The chapter's example.
func TestExample(t *testing.T) {
	s := vstore.New()
	o := runs(t, s, batch(add(1)), 2, api.OK, "version=1")
	told(t, o, event(vstore.Added, 1, 1))
	has(t, s, 1, bare(1))
}

// P27.1: which commands are operations.
func TestStart(t *testing.T) {
	eight := []proto.Edit{add(1), alter(2, keep(1)), drop(3), move(1, 4), roll(5, 6), drop(1), drop(1), drop(1)}
	for _, c := range []proto.Command{batch(add(0)), batch(eight...), show(0), show(9), dump(1), dump(16)} {
		o := start(t, c)
		if o.Done() || o.Steps() != 0 || o.Result().E != api.ErrState || len(o.Result().Words) != 0 || len(o.Events()) != 0 {
			t.Errorf("%v: %v %d %v", c, o.Done(), o.Steps(), o.Result())
		}
	}
	wrong := []proto.Command{
		{}, {Verb: -1}, {Verb: 7}, {Verb: math.MinInt}, {Verb: math.MaxInt}, {Verb: 7, Key: key(1)}, {Verb: 7, Edits: eight},
		{Verb: proto.Watch}, {Verb: proto.Next, Size: 1}, {Verb: proto.Next, Size: 64}, {Verb: proto.Quit},
		{Verb: proto.Watch, Size: 1}, {Verb: proto.Next}, {Verb: proto.Next, Size: 65}, {Verb: proto.Quit, Key: key(1)},
		{Verb: proto.Batch}, {Verb: proto.Batch, Edits: []proto.Edit{}}, batch(append(slices.Clone(eight), drop(1))...),
		{Verb: proto.Batch, Edits: eight, Key: key(1)}, {Verb: proto.Batch, Edits: eight, Size: 1},
		{Verb: proto.Show, Size: 1}, {Verb: proto.Show, Edits: eight}, dump(0), dump(-1), dump(17), dump(math.MaxInt), {Verb: proto.Dump, Size: 1, Key: key(1)}, {Verb: proto.Dump, Size: 1, Edits: eight},
		batch(proto.Edit{}), batch(proto.Edit{Verb: 6}), batch(proto.Edit{Verb: -1, Key: key(1)}), batch(alter(1)), batch(roll(1, 1)), batch(add(1, record.Change{})),
		batch(add(1, keep(65536))), batch(alter(1, keep(-1))), batch(append(slices.Clone(eight[:7]), alter(1))...), batch(alter(1, pluses(0, 9)...)), batch(add(1, pluses(0, 9)...)),
		batch(proto.Edit{Verb: proto.Drop, Key: key(1), Fresh: key(2)}), batch(proto.Edit{Verb: proto.Move, Key: key(1), Prefix: api.Prefix{Bits: 33}}),
	}
	for _, c := range wrong {
		if o, e := opsm.Start(c); o != nil || e != api.ErrForm {
			t.Errorf("%v: %v %v", c, o, e)
		}
	}
}

// P27.1, P27.2, P1: of nil, and of one that no call made.
func TestNil(t *testing.T) {
	s := stored(t, bare(1))
	for _, store := range []*vstore.Store{s, nil, {}} {
		for _, o := range []*opsm.Op{nil, {}, new(opsm.Op)} {
			for range 3 {
				if !o.Step(store) || !o.Done() || o.Steps() != 0 || len(o.Events()) != 0 {
					t.Errorf("%v %d %v", o.Done(), o.Steps(), o.Events())
				}
				if r := o.Result(); r.E != api.ErrNil || len(r.Words) != 0 {
					t.Errorf("Result: %v", r)
				}
			}
		}
	}
	has(t, s, 1, bare(1))
}

// P27.1: with a store that is nil, or that no call made, an operation ends at whatever step, and that is a step done.
func TestNoStore(t *testing.T) {
	for _, c := range []proto.Command{batch(add(5)), batch(alter(1, keep(7))), batch(drop(1), roll(2, 3), add(1)), batch(drop(9)), show(1), show(9), dump(1), dump(2), dump(16)} {
		for _, none := range []*vstore.Store{nil, {}} {
			for n := range 20 {
				s := stored(t, full(1), full(2), full(4))
				o := start(t, c)
				for range n {
					o.Step(s)
				}
				if o.Done() {
					// Behind the end nothing more is done, whatever store it is.
					was, steps := o.Result(), o.Steps()
					if !o.Step(none) || o.Steps() != steps || o.Result().E != was.E || !slices.Equal(o.Result().Words, was.Words) {
						t.Errorf("%v: %v, was %v", c, o.Result(), was)
					}
					break
				}
				ends(t, o, none, api.ErrNil)
				ended(t, o, s, n+1, api.ErrNil)
				told(t, o)
				has(t, s, 3, full(1), full(2), full(4))
			}
		}
	}
}

// P27.1: whether a store is one costs nothing: nothing of it changes.
func TestStoreIsAsItWas(t *testing.T) {
	s := stored(t, full(1))
	pin, _ := s.Pin()
	for _, c := range []proto.Command{show(1), show(2), batch(drop(3)), batch(alter(1, keep(101)))} {
		for o := start(t, c); !o.Step(s); {
		}
	}
	if next, _ := s.Pin(); next != pin+1 || !s.Unpin(pin) {
		t.Errorf("pin %d, want %d", next, pin+1)
	}
	has(t, s, 1, full(1))
}

// keysOf are batches, with the numbers of their keys in order.
func keysOf() ([]proto.Command, [][]int) {
	return []proto.Command{
		batch(alter(1, keep(1))),
		batch(alter(2, keep(1)), alter(1, keep(1))),
		batch(alter(1, keep(1)), alter(1, keep(2)), alter(1, keep(3))),
		batch(alter(3, keep(1)), alter(1, keep(2)), alter(3, keep(3)), alter(2, keep(4)), alter(1, keep(5))),
		batch(drop(1)), batch(drop(2), drop(1)), batch(drop(1), add(1), drop(1)),
		batch(move(1, 2)), batch(move(1, 2), move(2, 1), move(3, 2)),
		batch(roll(1, 5)), batch(roll(3, 5), roll(2, 4)), batch(roll(1, 4), roll(4, 1)), batch(roll(1, 4), roll(4, 5), roll(5, 6)), batch(alter(2, keep(1)), roll(1, 4), alter(4, keep(1)), add(1), roll(2, 6)),
		batch(add(4)), batch(add(5), add(4)), batch(add(4), alter(4, keep(1)), move(1, 4)),
		batch(drop(0), add(0), roll(0, 9)),
		batch(roll(0, 10), roll(1, 11), roll(2, 12), roll(3, 13), add(14), add(15), add(16), add(17)),
		batch(roll(0, 10), roll(1, 11), roll(2, 12), roll(3, 13), roll(10, 14), roll(11, 15), roll(12, 16), roll(13, 17)),
	}, [][]int{
		{1}, {2, 1}, {1}, {3, 1, 2}, {1}, {2, 1}, {1}, {2}, {2, 1}, {1, 5}, {3, 5, 2, 4}, {1, 4}, {1, 4, 5, 6}, {2, 1, 4, 6},
		{4}, {5, 4}, {4}, {0, 9}, {0, 10, 1, 11, 2, 12, 3, 13, 14, 15, 16, 17}, {0, 10, 1, 11, 2, 12, 3, 13, 14, 15, 16, 17},
	}
}

// four is a store of four peers.
func four(t *testing.T) *vstore.Store { return stored(t, bare(0), bare(1), bare(2), bare(3)) }

// P27.4: without foreign commits a Batch of k keys ends in k + 1 steps, each key of it once.
func TestSteps(t *testing.T) {
	all, keys := keysOf()
	for i, c := range all {
		s := four(t)
		o := start(t, c)
		goesOn(t, o, s, len(keys[i]))
		if !o.Step(s) || o.Result().E != api.OK {
			t.Errorf("%v: %v", c, o.Result())
		}
		ended(t, o, s, len(keys[i])+1, api.OK, o.Result().Words...)
	}
}

// P27.4: an operation of eight Rolls of unlike keys has sixteen keys.
func TestSixteenKeys(t *testing.T) {
	s := vstore.New()
	var edits []proto.Edit
	var want []record.Peer
	var events []vstore.Event
	for n := range 8 {
		commit(t, s, full(n, route(n)))
		edits = append(edits, roll(n, 20+n))
		p := full(n, route(n))
		p.Public = key(20 + n)
		want = append(want, p)
		events = append(events, event(vstore.Removed, n, 9))
	}
	for n := range 8 {
		events = append(events, event(vstore.Added, 20+n, 9))
	}
	o := runs(t, s, batch(edits...), 17, api.OK, "version=9")
	told(t, o, events...)
	has(t, s, 9, want...)
}

// P27.1: which key is looked at in which step: a foreign commit of it fails the attempt, if it comes behind that step, and is of no matter ahead of it.
func TestKeysInOrder(t *testing.T) {
	all, keys := keysOf()
	for i, c := range all {
		for place, n := range keys[i] {
			for steps := range len(keys[i]) + 1 {
				s := four(t)
				o := start(t, c)
				goesOn(t, o, s, steps)
				foreign := bare(n)
				_, _, there := s.Get(key(n))
				foreign.Shared = key(77)
				commit(t, s, foreign)
				goesOn(t, o, s, len(keys[i])-steps)
				if steps <= place {
					if !o.Step(s) {
						t.Errorf("%v: key %d is looked at ahead of step %d", c, n, steps+1)
					}
					continue
				}
				// It failed: another attempt looks at all keys again.
				goesOn(t, o, s, 1+len(keys[i]))
				if !o.Step(s) {
					t.Errorf("%v: key %d is not looked at by step %d", c, n, steps)
				}
				if there != (o.Result().E == api.OK) {
					t.Errorf("%v: key %d: %v", c, n, o.Result())
				}
			}
		}
	}
}

// P27.1, P27.4: what fails an attempt: whatever gives a key's peer another version, or takes it away, or puts one; and what does not.
func TestFails(t *testing.T) {
	taken := func(t *testing.T, s *vstore.Store) { commit(t, s, bare(9, route(2))) }
	for name, c := range map[string]struct {
		foreign func(t *testing.T, s *vstore.Store)
		fails   bool
		e       api.Errno
		words   []string
	}{
		"nothing":                  {func(t *testing.T, s *vstore.Store) {}, false, api.OK, []string{version(4)}},
		"changed":                  {func(t *testing.T, s *vstore.Store) { commit(t, s, kept(1, 5)) }, true, api.OK, []string{version(5)}},
		"put as it was":            {func(t *testing.T, s *vstore.Store) { commit(t, s, bare(1)) }, true, api.OK, []string{version(5)}},
		"gone":                     {func(t *testing.T, s *vstore.Store) { remove(t, s, 1) }, true, api.ErrNone, nil},
		"gone and back":            {func(t *testing.T, s *vstore.Store) { remove(t, s, 2); commit(t, s, bare(2, route(2))) }, true, api.OK, []string{version(6)}},
		"lost a route":             {taken, true, api.OK, []string{version(5)}},
		"lost a route and back":    {func(t *testing.T, s *vstore.Store) { taken(t, s); commit(t, s, bare(2, route(2))); remove(t, s, 9) }, true, api.OK, []string{version(7)}},
		"is there now":             {func(t *testing.T, s *vstore.Store) { commit(t, s, bare(4)) }, true, api.ErrState, nil},
		"was there, but is not":    {func(t *testing.T, s *vstore.Store) { commit(t, s, bare(4)); remove(t, s, 4) }, false, api.OK, []string{version(6)}},
		"of another one":           {func(t *testing.T, s *vstore.Store) { commit(t, s, kept(3, 9)) }, false, api.OK, []string{version(5)}},
		"another one is there":     {func(t *testing.T, s *vstore.Store) { commit(t, s, bare(5)) }, false, api.OK, []string{version(5)}},
		"another one is gone":      {func(t *testing.T, s *vstore.Store) { remove(t, s, 3) }, false, api.OK, []string{version(5)}},
		"a commit without a write": {func(t *testing.T, s *vstore.Store) { commit(t, s) }, false, api.OK, []string{version(5)}},
		"a pin":                    {func(t *testing.T, s *vstore.Store) { s.Pin() }, false, api.OK, []string{version(4)}},
	} {
		s := stored(t, bare(1), bare(2, route(2)), bare(3))
		o := start(t, batch(alter(1, keep(7)), alter(2, keep(8)), add(4)))
		goesOn(t, o, s, 3)
		c.foreign(t, s)
		if c.fails {
			goesOn(t, o, s, 4)
		}
		if !o.Step(s) {
			t.Errorf("%s: not ended", name)
		}
		if r := o.Result(); r.E != c.e || !slices.Equal(r.Words, c.words) {
			t.Errorf("%s: %v, want %v %v", name, r, c.e, c.words)
		}
	}
}

// P27.1: edits that are done, with the peers behind them, and the events: what is not as it was read is committed, first those that are gone, then the others, each in the order of keys.
func TestEdits(t *testing.T) {
	all := []record.Change{shared(5), at(6), keep(25), plus(7), plus(6), minus(7), keep(26), plus(8)}
	whole := record.Peer{Public: key(3), Shared: key(5), HasEnd: true, End: end(6), Keep: 26, Routes: []api.Prefix{route(6), route(8)}}
	rolled := full(1, route(1), route(2))
	rolled.Public = key(3)
	one, two := full(1, route(1), route(2)), kept(2, 5, route(3))
	for _, c := range []struct {
		edits  []proto.Edit
		want   []record.Peer
		events []vstore.Event
	}{
		{[]proto.Edit{add(3)}, []record.Peer{one, two, bare(3)}, []vstore.Event{event(vstore.Added, 3, 3)}},
		{[]proto.Edit{add(3, all...)}, []record.Peer{one, two, whole}, []vstore.Event{event(vstore.Added, 3, 3)}},
		{[]proto.Edit{add(0)}, []record.Peer{bare(0), one, two}, []vstore.Event{event(vstore.Added, 0, 3)}},
		{[]proto.Edit{add(3, plus(3))}, []record.Peer{one, kept(2, 5), bare(3, route(3))}, []vstore.Event{event(vstore.Changed, 2, 3), event(vstore.Added, 3, 3)}},
		{[]proto.Edit{alter(2, keep(9))}, []record.Peer{one, kept(2, 9, route(3))}, []vstore.Event{event(vstore.Changed, 2, 3)}},
		{[]proto.Edit{alter(2, keep(9), keep(0), plus(4), minus(3))}, []record.Peer{one, bare(2, route(4))}, []vstore.Event{event(vstore.Changed, 2, 3)}},
		{[]proto.Edit{alter(1, record.Change{Kind: record.ClearEnd}, record.Change{Kind: record.ClearRoutes}, keep(0), shared(0))}, []record.Peer{bare(1), two}, []vstore.Event{event(vstore.Changed, 1, 3)}},
		{[]proto.Edit{alter(2, keep(9)), alter(2, plus(9)), alter(2, minus(3))}, []record.Peer{one, kept(2, 9, route(9))}, []vstore.Event{event(vstore.Changed, 2, 3)}},
		{[]proto.Edit{drop(1)}, []record.Peer{two}, []vstore.Event{event(vstore.Removed, 1, 3)}},
		{[]proto.Edit{drop(2), drop(1)}, nil, []vstore.Event{event(vstore.Removed, 2, 3), event(vstore.Removed, 1, 3)}},
		{[]proto.Edit{move(4, 2)}, []record.Peer{one, kept(2, 5, route(3), route(4))}, []vstore.Event{event(vstore.Changed, 2, 3)}},
		{[]proto.Edit{move(1, 2)}, []record.Peer{full(1, route(2)), kept(2, 5, route(1), route(3))}, []vstore.Event{event(vstore.Changed, 1, 3), event(vstore.Changed, 2, 3)}},
		{[]proto.Edit{roll(1, 3)}, []record.Peer{two, rolled}, []vstore.Event{event(vstore.Removed, 1, 3), event(vstore.Added, 3, 3)}},
		{[]proto.Edit{roll(2, 0)}, []record.Peer{kept(0, 5, route(3)), one}, []vstore.Event{event(vstore.Removed, 2, 3), event(vstore.Added, 0, 3)}},
		{[]proto.Edit{roll(1, 4), roll(4, 3)}, []record.Peer{two, rolled}, []vstore.Event{event(vstore.Removed, 1, 3), event(vstore.Added, 3, 3)}},
		{[]proto.Edit{roll(2, 3), add(2)}, []record.Peer{one, bare(2), kept(3, 5, route(3))}, []vstore.Event{event(vstore.Changed, 2, 3), event(vstore.Added, 3, 3)}},
		{[]proto.Edit{drop(2), roll(1, 2)}, []record.Peer{{Public: key(2), Shared: one.Shared, HasEnd: true, End: one.End, Keep: one.Keep, Routes: one.Routes}},
			[]vstore.Event{event(vstore.Removed, 1, 3), event(vstore.Changed, 2, 3)}},
		{[]proto.Edit{drop(2), add(2)}, []record.Peer{one, bare(2)}, []vstore.Event{event(vstore.Changed, 2, 3)}},
		{[]proto.Edit{add(3, keep(1)), drop(3), add(3, keep(2))}, []record.Peer{one, two, kept(3, 2)}, []vstore.Event{event(vstore.Added, 3, 3)}},
		{[]proto.Edit{add(4), drop(2), add(3), drop(1)}, []record.Peer{bare(3), bare(4)},
			[]vstore.Event{event(vstore.Removed, 2, 3), event(vstore.Removed, 1, 3), event(vstore.Added, 4, 3), event(vstore.Added, 3, 3)}},
		{[]proto.Edit{alter(2, keep(6)), add(0), alter(1, keep(7), shared(7))}, []record.Peer{bare(0), {Public: key(1), Shared: key(7), HasEnd: true, End: one.End, Keep: 7, Routes: one.Routes}, kept(2, 6, route(3))},
			[]vstore.Event{event(vstore.Changed, 2, 3), event(vstore.Added, 0, 3), event(vstore.Changed, 1, 3)}},
		// Edits are done with what was read: what a peer loses by the commit of another one's route it still has there, and takes back, if it is written behind.
		{[]proto.Edit{move(3, 1), move(2, 2)}, []record.Peer{full(1, route(1)), kept(2, 5, route(2), route(3))},
			[]vstore.Event{event(vstore.Changed, 2, 3), event(vstore.Changed, 1, 3), event(vstore.Changed, 1, 3), event(vstore.Changed, 2, 3)}},
		{[]proto.Edit{move(3, 1), alter(2, keep(6))}, []record.Peer{one, kept(2, 6, route(3))}, []vstore.Event{event(vstore.Changed, 2, 3), event(vstore.Changed, 1, 3), event(vstore.Changed, 1, 3), event(vstore.Changed, 2, 3)}},
		{[]proto.Edit{alter(2, keep(6)), move(3, 1)}, []record.Peer{full(1, route(1), route(2), route(3)), kept(2, 6)}, []vstore.Event{event(vstore.Changed, 2, 3), event(vstore.Changed, 2, 3), event(vstore.Changed, 1, 3)}},
		{[]proto.Edit{move(3, 1), alter(2, minus(3))}, []record.Peer{full(1, route(1), route(2), route(3)), kept(2, 5)}, []vstore.Event{event(vstore.Changed, 2, 3), event(vstore.Changed, 1, 3), event(vstore.Changed, 2, 3)}},
	} {
		s := stored(t, one, two)
		o := start(t, batch(c.edits...))
		for !o.Step(s) {
		}
		if r := o.Result(); r.E != api.OK || !slices.Equal(r.Words, []string{"version=3"}) {
			t.Errorf("%v: %v", c.edits, r)
		}
		told(t, o, c.events...)
		has(t, s, 3, c.want...)
		if t.Failed() {
			t.Fatalf("%v", c.edits)
		}
	}
}

// P27.1: edits that end with an error: the first one that has one tells it, and nothing is done.
func TestEditErrors(t *testing.T) {
	many := bare(3, routes(100, 150)...)
	wide := pluses(0, 8)
	for _, c := range []struct {
		edits []proto.Edit
		want  api.Errno
	}{
		{[]proto.Edit{add(1)}, api.ErrState},
		{[]proto.Edit{add(1, keep(1))}, api.ErrState},
		{[]proto.Edit{add(1, minus(99))}, api.ErrState},
		{[]proto.Edit{add(4), add(4)}, api.ErrState},
		{[]proto.Edit{alter(4, keep(1))}, api.ErrNone},
		{[]proto.Edit{alter(4, minus(99))}, api.ErrNone},
		{[]proto.Edit{drop(1), alter(1, keep(1))}, api.ErrNone},
		{[]proto.Edit{drop(4)}, api.ErrNone},
		{[]proto.Edit{drop(1), drop(1)}, api.ErrNone},
		{[]proto.Edit{move(1, 4)}, api.ErrNone},
		{[]proto.Edit{drop(1), move(1, 1)}, api.ErrNone},
		{[]proto.Edit{roll(4, 5)}, api.ErrNone},
		{[]proto.Edit{roll(4, 1)}, api.ErrNone},
		{[]proto.Edit{roll(1, 2)}, api.ErrState},
		{[]proto.Edit{roll(1, 4), roll(1, 5)}, api.ErrNone},
		{[]proto.Edit{roll(1, 4), roll(2, 4)}, api.ErrState},
		{[]proto.Edit{roll(1, 4), alter(1, keep(1))}, api.ErrNone},
		{[]proto.Edit{roll(1, 4), add(4)}, api.ErrState},
		{[]proto.Edit{roll(1, 2), drop(4)}, api.ErrState},
		{[]proto.Edit{drop(4), roll(1, 2)}, api.ErrNone},
		{[]proto.Edit{add(1), drop(4)}, api.ErrState},
		{[]proto.Edit{drop(4), add(1)}, api.ErrNone},
		{[]proto.Edit{add(4, minus(1))}, api.ErrNone},
		{[]proto.Edit{alter(1, minus(99))}, api.ErrNone},
		{[]proto.Edit{alter(1, minus(1), minus(1))}, api.ErrNone},
		{[]proto.Edit{alter(1, keep(5), minus(99), keep(6))}, api.ErrNone},
		{[]proto.Edit{alter(3, wide...), alter(3, pluses(8, 15)...)}, api.ErrFull},
		{[]proto.Edit{alter(3, wide...), alter(3, pluses(8, 14)...), move(14, 3)}, api.ErrFull},
		{[]proto.Edit{alter(3, wide...), alter(3, pluses(8, 15)...), add(1)}, api.ErrFull},
		{[]proto.Edit{add(4), add(5), alter(1, keep(5)), drop(2), roll(3, 6), add(4)}, api.ErrState},
	} {
		s := stored(t, full(1, route(1)), full(2), many)
		o := start(t, batch(c.edits...))
		for !o.Step(s) {
		}
		if r := o.Result(); r.E != c.want || len(r.Words) != 0 || len(o.Events()) != 0 {
			t.Errorf("%v: %v %v, want %v", c.edits, r, o.Events(), c.want)
		}
		has(t, s, 3, full(1, route(1)), full(2), many)
	}
}

// P27.1: what is as it was read is not committed, and is written in no new version; if nothing is to be committed, the version is the store's.
func TestNothingToCommit(t *testing.T) {
	for _, c := range []proto.Command{
		batch(alter(1, keep(101))), batch(alter(1, shared(1001), at(1), plus(1))), batch(alter(1, keep(1)), alter(1, keep(101))), batch(alter(1, plus(5), minus(5))), batch(alter(1, minus(1), plus(1))),
		batch(move(1, 1)), batch(add(5), drop(5)), batch(add(5, keep(1)), roll(5, 6), drop(6)), batch(roll(1, 5), roll(5, 1)), batch(roll(1, 5), roll(5, 6), roll(6, 1)),
		batch(drop(1), add(1, shared(1001), at(1), keep(101), plus(1))), batch(drop(0), add(0)), batch(add(5), roll(5, 6), roll(6, 7), drop(7)),
	} {
		s := stored(t, full(1, route(1)), bare(0))
		o := start(t, c)
		goesOn(t, o, s, 1)
		commit(t, s, full(2))
		for !o.Step(s) {
		}
		if r := o.Result(); r.E != api.OK || !slices.Equal(r.Words, []string{"version=3"}) {
			t.Errorf("%v: %v", c, r)
		}
		told(t, o)
		has(t, s, 3, bare(0), full(1, route(1)), full(2))
		written(t, s, 1, 1)
		written(t, s, 0, 2)
	}
	// Of a store without peers, too.
	s := vstore.New()
	runs(t, s, batch(add(0), drop(0)), 2, api.OK, "version=0")
	has(t, s, 0)
}

// P27.1: only those that are unlike are written; the others keep their versions.
func TestOnlyWhatChanged(t *testing.T) {
	s := stored(t, full(1), full(2), full(3))
	o := runs(t, s, batch(alter(1, keep(101)), alter(3, keep(5)), alter(2, keep(9), keep(102)), add(7), drop(7)), 5, api.OK, "version=4")
	told(t, o, event(vstore.Changed, 3, 4))
	for n, v := range []uint64{1: 1, 2: 2, 3: 4, 7: 0} {
		written(t, s, n, v)
	}
}

// P27.1: a peer whose fields are all 0 is told from none, and a change of each field counts.
func TestUnlike(t *testing.T) {
	s := vstore.New()
	told(t, runs(t, s, batch(add(0)), 2, api.OK, "version=1"), event(vstore.Added, 0, 1))
	for i, c := range []record.Change{shared(3), at(3), keep(3), plus(3), at(4), {Kind: record.ClearEnd}, plus(2), minus(3), {Kind: record.ClearRoutes}, shared(0), keep(0)} {
		v := uint64(i + 2)
		told(t, runs(t, s, batch(alter(0, c)), 2, api.OK, version(v)), event(vstore.Changed, 0, v))
	}
	has(t, s, 12, bare(0))
	told(t, runs(t, s, batch(drop(0)), 2, api.OK, "version=13"), event(vstore.Removed, 0, 13))
	has(t, s, 13)
}

// P27.1: an error of the commit ends it: more than MaxPeers peers, more than MaxRoutes routes in all; those that are gone make room first.
func TestFull(t *testing.T) {
	s := vstore.New()
	for n := range api.MaxPeers {
		commit(t, s, bare(n, routes(4*n, 4*n+4)...))
	}
	was := func(v uint64) {
		t.Helper()
		if s.Version() != v || len(s.Keys()) != api.MaxPeers {
			t.Errorf("version %d, %d peers", s.Version(), len(s.Keys()))
		}
	}
	told(t, runs(t, s, batch(add(20)), 2, api.ErrFull))
	told(t, runs(t, s, batch(move(70, 1)), 2, api.ErrFull))
	told(t, runs(t, s, batch(alter(1, plus(70)), alter(2, keep(5))), 3, api.ErrFull))
	told(t, runs(t, s, batch(add(20), add(21), drop(3)), 4, api.ErrFull))
	was(16)
	told(t, runs(t, s, batch(add(20, plus(70)), drop(3)), 3, api.OK, "version=17"), event(vstore.Removed, 3, 17), event(vstore.Added, 20, 17))
	told(t, runs(t, s, batch(roll(4, 21)), 3, api.OK, "version=18"), event(vstore.Removed, 4, 18), event(vstore.Added, 21, 18))
	told(t, runs(t, s, batch(move(0, 20), move(71, 20), move(72, 20)), 2, api.OK, "version=19"), event(vstore.Changed, 0, 19), event(vstore.Changed, 20, 19))
	was(19)
	// Writes are done one behind the other: at none of them there may be too many.
	told(t, runs(t, s, batch(move(73, 20)), 2, api.OK, "version=20"), event(vstore.Changed, 20, 20))
	told(t, runs(t, s, batch(move(74, 20)), 2, api.ErrFull))
	told(t, runs(t, s, batch(alter(20, plus(74)), alter(5, minus(20))), 3, api.ErrFull))
	was(20)
	told(t, runs(t, s, batch(alter(5, minus(20)), alter(20, plus(74))), 3, api.OK, "version=21"), event(vstore.Changed, 5, 21), event(vstore.Changed, 20, 21))
	was(21)
}

// P27.1, P27.4: MaxRetry attempts that fail, and one that does not; with one more that fails it ends with ErrBusy.
func TestBusy(t *testing.T) {
	for fails := range attempts + 1 {
		s := stored(t, bare(1), bare(2))
		o := start(t, batch(alter(2, keep(7)), alter(1, keep(8))))
		for n := range fails {
			goesOn(t, o, s, 2)
			commit(t, s, kept(1+n%2, 100+n))
			if n == api.MaxRetry {
				ends(t, o, s, api.ErrBusy)
				ended(t, o, s, attempts*3, api.ErrBusy)
				told(t, o)
				has(t, s, 11, kept(1, 108), kept(2, 107))
				return
			}
			goesOn(t, o, s, 1)
		}
		goesOn(t, o, s, 2)
		v := uint64(3 + fails)
		ends(t, o, s, api.OK, version(v))
		ended(t, o, s, 3*fails+3, api.OK, version(v))
		told(t, o, event(vstore.Changed, 2, v), event(vstore.Changed, 1, v))
		has(t, s, v, kept(1, 8), kept(2, 7))
	}
	t.Error("never busy")
}

// P27.4: in any case it ends in MaxRetry + 1 attempts, also one that would end with an error; each attempt reads anew.
func TestAttempts(t *testing.T) {
	for _, c := range []proto.Command{batch(drop(9)), batch(add(1)), batch(roll(1, 2)), batch(alter(1, keep(1)), drop(9))} {
		s := stored(t, bare(1), bare(2))
		o := start(t, c)
		for n := range 200 {
			commit(t, s, kept(1, n), kept(2, n), kept(9, n))
			if o.Step(s) {
				break
			}
		}
		keys := 1
		if o.Steps() > 2*attempts {
			keys = 2
		}
		ended(t, o, s, attempts*(keys+1), api.ErrBusy)
	}
}

// P27.4: an attempt that fails is followed by one from the first key on, which is done with what it reads itself.
func TestReadsAnew(t *testing.T) {
	s := stored(t, bare(1), bare(2))
	o := start(t, batch(alter(1, keep(7)), alter(2, plus(2)), add(3)))
	goesOn(t, o, s, 3)
	commit(t, s, bare(1, route(9)), kept(2, 9, route(1)))
	goesOn(t, o, s, 1)
	// Of the next attempt each key is read in its own step: the last one is seen as it is now.
	goesOn(t, o, s, 1)
	commit(t, s, bare(2, route(5)))
	goesOn(t, o, s, 2)
	ends(t, o, s, api.OK, "version=5")
	told(t, o, event(vstore.Changed, 1, 5), event(vstore.Changed, 2, 5), event(vstore.Added, 3, 5))
	has(t, s, 5, kept(1, 7, route(9)), bare(2, route(2), route(5)), bare(3))
	written(t, s, 1, 5)
}

// P27.1: what is read of one store is held against the one that is handed in then.
func TestAnotherStore(t *testing.T) {
	a, b := stored(t, bare(1)), stored(t, bare(2), kept(1, 3))
	o := start(t, batch(alter(1, keep(7))))
	goesOn(t, o, a, 1)
	goesOn(t, o, b, 2)
	ends(t, o, b, api.OK, "version=3")
	has(t, a, 1, bare(1))
	has(t, b, 3, kept(1, 7), bare(2))
	d := start(t, dump(1))
	goesOn(t, d, a, 2)
	ends(t, d, b, api.ErrExpired)
}

// P27.1: Show: the words of its line, and its version.
func TestShow(t *testing.T) {
	s := stored(t, bare(0), full(1), full(2, routes(0, 5)...), kept(3, 65535, routes(100, 159)...))
	for n, p := range []record.Peer{bare(0), full(1), full(2, routes(0, 5)...), kept(3, 65535, routes(100, 159)...)} {
		want := []string{"public=" + text.Key(p.Public), "shared=" + text.Key(p.Shared)}
		if p.HasEnd {
			want = append(want, "end=192.0.2."+strconv.Itoa(n)+":"+strconv.Itoa(1+n))
		}
		want = append(want, "keep="+strconv.Itoa(p.Keep))
		var row []string
		for _, r := range p.Routes {
			row = append(row, "10."+strconv.Itoa(int(r.Addr.B[1]))+"."+strconv.Itoa(int(r.Addr.B[2]))+".0/24")
		}
		if len(row) > 0 {
			want = append(want, "routes="+strings.Join(row, ","))
		}
		o := runs(t, s, show(n), 1, api.OK, append(want, version(uint64(n+1)))...)
		told(t, o)
		line, _ := record.Write(p)
		if got := strings.Join(o.Result().Words, " "); got != line+" "+version(uint64(n+1)) {
			t.Errorf("%q", got)
		}
	}
	for _, n := range []int{4, 5, 300} {
		told(t, runs(t, s, show(n), 1, api.ErrNone))
	}
	has(t, s, 4, bare(0), full(1), full(2, routes(0, 5)...), kept(3, 65535, routes(100, 159)...))
}

// P27.1, P27.3: a Show tells what is there at its step: the peer's version, not the store's.
func TestShowNow(t *testing.T) {
	s := vstore.New()
	none, some, gone := start(t, show(1)), start(t, show(1)), start(t, show(1))
	ends(t, none, s, api.ErrNone)
	commit(t, s, bare(1, route(1)))
	commit(t, s, bare(2))
	word := text.Key(key(1))
	ends(t, some, s, api.OK, "public="+word, "shared="+text.Key(api.Key{}), "keep=0", "routes=10.0.1.0/24", "version=1")
	commit(t, s, bare(2, route(1)))
	runs(t, s, show(1), 1, api.OK, "public="+word, "shared="+text.Key(api.Key{}), "keep=0", "version=3")
	remove(t, s, 1)
	ends(t, gone, s, api.ErrNone)
}

// keyWords are keys' words of a store, rising.
func keyWords(s *vstore.Store) []string {
	var out []string
	for _, k := range s.Keys() {
		out = append(out, text.Key(k))
	}
	return out
}

// P27.1: Dump: a step for the pin, and one for each page, the last of which has fewer peers than Size.
func TestDump(t *testing.T) {
	s := vstore.New()
	// They come in an order of their own, and are told rising; the key of noughts is one.
	order := []int{7, 0, 300, 1, 256, 15, 2, 9, 255, 5, 3, 700, 4, 257, 6, 8}
	for n := range api.MaxPeers + 1 {
		for size := 1; size <= api.MaxPeers; size++ {
			told(t, runs(t, s, dump(size), 2+n/size, api.OK, keyWords(s)...))
		}
		if n < api.MaxPeers {
			commit(t, s, bare(order[n]))
		}
	}
	if s.Version() != api.MaxPeers {
		t.Errorf("version %d", s.Version())
	}
}

// P27.1: behind the last page the pin is kept no more, ahead of it it is; each Dump makes one.
func TestDumpPins(t *testing.T) {
	s := stored(t, bare(1), bare(2), bare(3))
	for n := uint64(1); n <= 9; n++ {
		o := start(t, dump(2))
		keeps := func(want bool) {
			t.Helper()
			if _, e := s.Page(n, api.Key{}, false, 1); (e == api.OK) != want {
				t.Errorf("pin %d: %v", n, e)
			}
		}
		keeps(false)
		goesOn(t, o, s, 1)
		keeps(true)
		goesOn(t, o, s, 1)
		keeps(true)
		ends(t, o, s, api.OK, keyWords(s)...)
		keeps(false)
	}
	// Others' pins are kept.
	l := []uint64{10, 11, 12}
	for range l {
		s.Pin()
	}
	runs(t, s, dump(5), 2, api.OK, keyWords(s)...)
	for _, n := range l {
		if !s.Unpin(n) {
			t.Errorf("pin %d is kept no more", n)
		}
	}
}

// P27.1: a Dump whose pin is not kept ends with ErrExpired, at whatever page.
func TestDumpExpired(t *testing.T) {
	for steps := 1; steps <= 4; steps++ {
		for others := range api.MaxPins + 2 {
			s := stored(t, bare(1), bare(2), bare(3))
			o := start(t, dump(1))
			goesOn(t, o, s, steps)
			for range others {
				s.Pin()
			}
			if others >= api.MaxPins {
				ends(t, o, s, api.ErrExpired)
			} else {
				goesOn(t, o, s, 4-steps)
				ends(t, o, s, api.OK, keyWords(s)...)
			}
			told(t, o)
		}
		s := stored(t, bare(1), bare(2), bare(3))
		o := start(t, dump(1))
		goesOn(t, o, s, steps)
		if !s.Unpin(1) {
			t.Error("no pin")
		}
		ends(t, o, s, api.ErrExpired)
	}
}

// P27.5: a Dump tells the keys of the one moment of its first step, whatever is committed then.
func TestDumpMoment(t *testing.T) {
	r := rand.New(rand.NewPCG(27, 5))
	for range 300 {
		s := vstore.New()
		change := func() {
			n := r.IntN(12)
			if _, _, there := s.Get(key(n)); there && r.IntN(2) == 0 {
				remove(t, s, n)
			} else {
				commit(t, s, kept(n, r.IntN(100), route(r.IntN(9))))
			}
		}
		for range r.IntN(20) {
			change()
		}
		o := start(t, dump(1+r.IntN(5)))
		for range r.IntN(3) {
			change()
		}
		want := keyWords(s)
		for !o.Step(s) {
			for range r.IntN(4) {
				change()
			}
		}
		if got := o.Result(); got.E != api.OK || !slices.Equal(got.Words, want) {
			t.Fatalf("%v, want %v", got, want)
		}
	}
}

// What is handed in is not changed, and not kept: a command whose lists are turned then is done as it was.
func TestHandedIn(t *testing.T) {
	changes := append(make([]record.Change, 0, 8), keep(7), plus(1))
	edits := append(make([]proto.Edit, 0, 8), alter(1, changes...), proto.Edit{Verb: proto.Add, Key: key(2), Changes: changes})
	edits[0].Changes = changes
	c := batch(edits...)
	c.Edits = edits
	s := stored(t, bare(1))
	o := start(t, c)
	behind := edits[:8]
	for i := range behind {
		behind[i] = drop(9)
	}
	for i := range changes[:8] {
		changes[:8][i] = keep(99)
	}
	goesOn(t, o, s, 2)
	ends(t, o, s, api.OK, "version=2")
	has(t, s, 2, kept(1, 7), kept(2, 7, route(1)))

	whole := append(make([]proto.Edit, 0, 4), add(5, keep(1)), drop(5), alter(6, keep(3)))
	kept := slices.Clone(whole)
	p := start(t, proto.Command{Verb: proto.Batch, Edits: whole[:2]})
	for !p.Step(s) {
	}
	if !slices.EqualFunc(whole, kept, func(a, b proto.Edit) bool { return proto.Same(batch(a), batch(b)) }) {
		t.Error("a command was changed")
	}
}

// What is handed out is new memory: turned, it is told again as it was.
func TestHandedOut(t *testing.T) {
	s := stored(t, full(1, routes(0, 3)...), bare(2))
	for _, o := range []*opsm.Op{
		runs(t, s, dump(1), 4, api.OK, keyWords(s)...),
		runs(t, s, batch(drop(2), add(3)), 3, api.OK, "version=3"),
		runs(t, s, show(3), 1, api.OK, "public="+text.Key(key(3)), "shared="+text.Key(api.Key{}), "keep=0", "version=3"),
	} {
		words, events := slices.Clone(o.Result().Words), slices.Clone(o.Events())
		for range 2 {
			l, m := o.Result().Words, o.Events()
			if cap(l) != len(l) || cap(m) != len(m) {
				t.Errorf("room behind: %d of %d, %d of %d", len(l), cap(l), len(m), cap(m))
			}
			clear(l)
			clear(m)
		}
		if !slices.Equal(o.Result().Words, words) || !slices.Equal(o.Events(), events) {
			t.Errorf("%v %v, want %v %v", o.Result(), o.Events(), words, events)
		}
	}
}

// What is handed out has no room behind, of however many events.
func TestHandedOutMany(t *testing.T) {
	for n := 1; n <= api.MaxBatch; n++ {
		s := stored(t, bare(1, routes(10, 18)...), bare(2, routes(20, 28)...), bare(3, routes(30, 38)...))
		var edits []proto.Edit
		var want []vstore.Event
		for i := range n {
			edits = append(edits, add(4+i, plus(10+i), plus(20+i), plus(30+i)))
			want = append(want, event(vstore.Changed, 1, 4), event(vstore.Changed, 2, 4), event(vstore.Changed, 3, 4), event(vstore.Added, 4+i, 4))
		}
		o := runs(t, s, batch(edits...), n+1, api.OK, "version=4")
		told(t, o, want...)
		if l := o.Events(); cap(l) != len(l) {
			t.Errorf("%d of %d", len(l), cap(l))
		}
	}
}

// What an operation wrote is not what it shows others: what it read and changed stays its own.
func TestPeersStay(t *testing.T) {
	s := stored(t, bare(1, routes(0, 3)...))
	pin, _ := s.Pin()
	runs(t, s, batch(alter(1, minus(0), plus(8), plus(2))), 2, api.OK, "version=2")
	row, e := s.Page(pin, api.Key{}, false, 1)
	if e != api.OK || !record.Same(row[0], bare(1, routes(0, 3)...)) {
		t.Errorf("%v %v", row, e)
	}
}

// inTurn does steps of two operations in turn, to the end of both.
func inTurn(a *opsm.Op, s *vstore.Store, b *opsm.Op, u *vstore.Store) {
	for range 100 {
		a.Step(s)
		b.Step(u)
	}
}

// P1: an operation that is copied by its value goes its own way, from whatever step on.
func TestCopied(t *testing.T) {
	for _, c := range []proto.Command{batch(alter(1, keep(7)), alter(2, keep(8)), roll(3, 5)), show(1), batch(drop(9), drop(2))} {
		for steps := range 6 {
			one := stored(t, bare(1), bare(2), bare(3))
			o := start(t, c)
			for range steps {
				o.Step(one)
			}
			two, p := *one, *o
			commit(t, one, kept(1, 1), kept(2, 2), kept(3, 3))
			inTurn(o, one, &p, &two)
			// What the copy does is what it would do without the other one.
			three := stored(t, bare(1), bare(2), bare(3))
			q := start(t, c)
			for !q.Step(three) {
			}
			if p.Steps() != q.Steps() || p.Result().E != q.Result().E || !slices.Equal(p.Result().Words, q.Result().Words) || !slices.Equal(p.Events(), q.Events()) {
				t.Errorf("%v, copied behind %d: %v in %d, want %v in %d", c, steps, p.Result(), p.Steps(), q.Result(), q.Steps())
			}
		}
	}
}

// P1: a Dump that is copied by its value tells its own pages.
func TestCopiedDump(t *testing.T) {
	for steps := range 9 {
		for size := 1; size <= 3; size++ {
			one := stored(t, bare(1), bare(2), bare(3), bare(4), bare(5), bare(6), bare(7))
			o := start(t, dump(size))
			for range steps {
				o.Step(one)
			}
			two, p := *one, *o
			if steps == 0 {
				remove(t, one, 2, 3)
			}
			want := keyWords(one)
			inTurn(o, one, &p, &two)
			if !slices.Equal(o.Result().Words, want) || !slices.Equal(p.Result().Words, keyWords(&two)) {
				t.Errorf("copied behind %d: %v %v", steps, o.Result(), p.Result())
			}
		}
	}
}

// P1: a copy of a Dump that goes on with another store has pages of its own, too.
func TestCopiedDumpElsewhere(t *testing.T) {
	for steps := 1; steps <= 7; steps++ {
		one := stored(t, bare(1), bare(2), bare(3), bare(4), bare(5), bare(6), bare(7))
		two := stored(t, bare(11), bare(12), bare(13), bare(14), bare(15), bare(16), bare(17))
		o := start(t, dump(1))
		goesOn(t, o, one, steps)
		two.Pin()
		p := *o
		want := append(keyWords(one)[:steps-1], keyWords(two)...)
		inTurn(o, one, &p, two)
		if !slices.Equal(o.Result().Words, keyWords(one)) {
			t.Errorf("copied behind %d: %v", steps, o.Result())
		}
		// The pages of the other store go on behind the keys that were told.
		if got := p.Result().Words; !slices.Equal(got, want) {
			t.Errorf("copied behind %d: %v, want %v", steps, got, want)
		}
	}
}

// dated is a peer with its version.
type dated struct {
	peer    record.Peer
	version uint64
}

// peersOf is all that a store has.
func peersOf(s *vstore.Store) map[api.Key]dated {
	out := map[api.Key]dated{}
	for _, k := range s.Keys() {
		p, v, _ := s.Get(k)
		out[k] = dated{p, v}
	}
	return out
}

// equalStores tells whether stores have the same.
func equalStores(a, b *vstore.Store) bool {
	x, y := peersOf(a), peersOf(b)
	if a.Version() != b.Version() || len(x) != len(y) {
		return false
	}
	for k, p := range x {
		if q, there := y[k]; !there || q.version != p.version || !record.Same(p.peer, q.peer) || a.Slot(k) != b.Slot(k) {
			return false
		}
	}
	return true
}

// place is where a key stands among others; -1, if it does not.
func place(l []record.Peer, k api.Key) int {
	return slices.IndexFunc(l, func(p record.Peer) bool { return p.Public == k })
}

// behindEdits is a row of peers behind edits, done one behind the other.
func behindEdits(l []record.Peer, edits []proto.Edit) ([]record.Peer, api.Errno) {
	l = slices.Clone(l)
	for _, e := range edits {
		i := place(l, e.Key)
		if e.Verb == proto.Add {
			if i >= 0 {
				return nil, api.ErrState
			}
			i = len(l)
			l = append(l, record.Peer{Public: e.Key})
		}
		if i < 0 {
			return nil, api.ErrNone
		}
		if e.Verb == proto.Drop {
			l = slices.Delete(l, i, i+1)
			continue
		}
		if e.Verb == proto.Roll {
			if place(l, e.Fresh) >= 0 {
				return nil, api.ErrState
			}
			l[i].Public = e.Fresh
		}
		changes := slices.Clone(e.Changes)
		if e.Verb == proto.Move {
			changes = append(changes, record.Change{Kind: record.AddRoute, Prefix: e.Prefix})
		}
		for _, c := range changes {
			p, code := record.Apply(l[i], c)
			if code != api.OK {
				return nil, code
			}
			l[i] = p
		}
	}
	return l, api.OK
}

// keysIn are a Batch's keys, in the order in which they come first.
func keysIn(edits []proto.Edit) []api.Key {
	var all, out []api.Key
	for _, e := range edits {
		all = append(all, e.Key)
		if e.Verb == proto.Roll {
			all = append(all, e.Fresh)
		}
	}
	for i, k := range all {
		if slices.Index(all, k) == i {
			out = append(out, k)
		}
	}
	return out
}

// atOnce does a Batch on a store at once, and tells what it ends with.
func atOnce(s *vstore.Store, edits []proto.Edit) (opsm.Result, []vstore.Event) {
	keys := keysIn(edits)
	var was []record.Peer
	for _, k := range keys {
		if p, _, there := s.Get(k); there {
			was = append(was, p)
		}
	}
	now, e := behindEdits(was, edits)
	if e != api.OK {
		return opsm.Result{E: e}, nil
	}
	var writes []vstore.Write
	for _, k := range keys {
		if place(was, k) >= 0 && place(now, k) < 0 {
			writes = append(writes, vstore.Write{Peer: record.Peer{Public: k}, Gone: true})
		}
	}
	for _, k := range keys {
		i, j := place(was, k), place(now, k)
		if j >= 0 && (i < 0 || !record.Same(was[i], now[j])) {
			writes = append(writes, vstore.Write{Peer: now[j]})
		}
	}
	if len(writes) == 0 {
		return opsm.Result{Words: []string{version(s.Version())}}, nil
	}
	v, events, e := s.Commit(nil, writes)
	if e != api.OK {
		return opsm.Result{E: e}, nil
	}
	return opsm.Result{Words: []string{version(v)}}, events
}

// session is one who is at a Batch: the model knows what it has read.
type session struct {
	op     *opsm.Op
	edits  []proto.Edit
	read   []uint64
	failed int
	steps  int
	moved  bool // did somebody else commit since the attempt's first step?
}

// edit is any edit of few keys and prefixes.
func edit(r *rand.Rand) proto.Edit {
	n := r.IntN(6)
	change := func() record.Change {
		switch r.IntN(6) {
		case 0:
			return keep(r.IntN(3))
		case 1:
			return minus(r.IntN(5))
		case 2:
			return shared(r.IntN(2))
		case 3:
			return record.Change{Kind: record.ClearRoutes}
		}
		return plus(r.IntN(5))
	}
	switch r.IntN(6) {
	case 0:
		return drop(n)
	case 1:
		return move(r.IntN(5), n)
	case 2:
		return roll(n, (n+1+r.IntN(5))%6)
	case 3:
		return alter(n, change(), change())
	case 4:
		return alter(n, change())
	}
	return add(n, change())
}

// edits is any row of edits, mostly short ones.
func edits(r *rand.Rand) []proto.Edit {
	var out []proto.Edit
	for range 1 + r.IntN(1+r.IntN(api.MaxBatch)) {
		out = append(out, edit(r))
	}
	return out
}

// P27.3, P27.4, P7: Batches that are done step by step, in whatever order, are done as at once at their last steps; each step is as a model tells.
func TestModel(t *testing.T) {
	r := rand.New(rand.NewPCG(27, 3))
	ends := map[api.Errno]int{}
	for range 400 {
		s := vstore.New()
		all := make([]*session, 1+r.IntN(6))
		for range 150 {
			i := r.IntN(len(all))
			if all[i] == nil {
				l := edits(r)
				all[i] = &session{op: start(t, batch(l...)), edits: l}
			}
			x := all[i]
			before := s.Version()
			if step(t, s, x) {
				ends[x.op.Result().E]++
				all[i] = nil
			}
			if t.Failed() {
				t.Fatalf("%v", x.edits)
			}
			if s.Version() != before {
				for _, y := range all {
					if y != nil && y != x {
						y.moved = true
					}
				}
			}
		}
	}
	for _, e := range []api.Errno{api.OK, api.ErrNone, api.ErrState} {
		if ends[e] < 500 {
			t.Errorf("%v came %d times", e, ends[e])
		}
	}
}

// step does a session's step, holds it against the model, and tells whether it ended.
func step(t *testing.T, s *vstore.Store, x *session) bool {
	t.Helper()
	keys := keysIn(x.edits)
	c := *s
	got := x.op.Step(s)
	x.steps++
	if x.op.Steps() != x.steps || x.op.Done() != got {
		t.Errorf("%d steps, want %d", x.op.Steps(), x.steps)
	}
	if len(x.read) < len(keys) {
		if len(x.read) == 0 {
			x.moved = false
		}
		_, v, _ := c.Get(keys[len(x.read)])
		x.read = append(x.read, v)
		if got || !equalStores(s, &c) {
			t.Errorf("a step that reads: %v", x.op.Result())
		}
		return false
	}
	for i, k := range keys {
		if _, v, _ := c.Get(k); v == x.read[i] {
			continue
		}
		x.read = nil
		x.failed++
		busy := x.failed == attempts
		if !x.moved || got != busy || busy && x.op.Result().E != api.ErrBusy || !equalStores(s, &c) {
			t.Errorf("attempt %d failed: %v %v", x.failed, x.moved, x.op.Result())
		}
		return busy
	}
	want, events := atOnce(&c, x.edits)
	if r := x.op.Result(); !got || r.E != want.E || !slices.Equal(r.Words, want.Words) || !slices.Equal(x.op.Events(), events) || !equalStores(s, &c) {
		t.Errorf("%v %v, want %v %v", r, x.op.Events(), want, events)
	}
	return true
}

// P27.4: many that alter one peer: some fail, but each that does had another one's commit in its attempt, and each ends.
func TestMany(t *testing.T) {
	s := stored(t, bare(1))
	var all []*opsm.Op
	for n := range 2 * attempts {
		all = append(all, start(t, batch(alter(1, keep(1+n)))))
	}
	done, busy := 0, 0
	for round := 0; len(all) > 0; round++ {
		for _, o := range all {
			o.Step(s)
		}
		all = slices.DeleteFunc(all, func(o *opsm.Op) bool {
			switch {
			case o.Done() && o.Result().E == api.OK:
				done++
			case o.Done() && o.Result().E == api.ErrBusy:
				busy++
			case o.Done():
				t.Errorf("%v", o.Result())
			}
			return o.Done()
		})
		if round > 2*attempts {
			t.Fatal("no end")
		}
	}
	// In each round of two steps the first one alone commits, until all others have failed as often as may be.
	if done != attempts || busy != attempts || s.Version() != 1+attempts {
		t.Errorf("%d done, %d busy, version %d", done, busy, s.Version())
	}
}

// P7: a prefix is one peer's, whoever moves it, in whatever order.
func TestMoves(t *testing.T) {
	r := rand.New(rand.NewPCG(27, 7))
	s := stored(t, bare(1), bare(2), bare(3))
	all := make([]*opsm.Op, 5)
	for range 3000 {
		i := r.IntN(len(all))
		if all[i] == nil {
			all[i] = start(t, batch(move(r.IntN(3), 1+r.IntN(3)), move(r.IntN(3), 1+r.IntN(3))))
		}
		if all[i].Step(s) {
			all[i] = nil
		}
		var l []api.Prefix
		for _, k := range s.Keys() {
			p, _, _ := s.Get(k)
			l = append(l, p.Routes...)
		}
		slices.SortFunc(l, func(a, b api.Prefix) int { return bytes.Compare(a.Addr.B[:], b.Addr.B[:]) })
		if len(slices.Compact(l)) != len(l) {
			t.Fatalf("a prefix of two: %v", l)
		}
	}
}
