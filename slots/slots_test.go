package slots_test

import (
	"bytes"
	"math"
	"math/rand/v2"
	"slices"
	"testing"

	"adit/aead"
	"adit/api"
	"adit/curve"
	"adit/noise"
	"adit/pair"
	"adit/slots"
	"adit/window"
	"adit/wire"
)

// row is n ordinary bytes, unlike for each seed.
func row(seed, n int) []byte {
	out := make([]byte, n)
	for i := range out {
		out[i] = byte((seed+3)*(i+5)*(i+seed+11)/3 + seed)
	}
	return out
}

// key is an ordinary key, unlike for each seed.
func key(seed int) api.Key { return api.Key(row(seed, 32)) }

// keys are those of the side that has a number, unlike for each; the other side's number is a hundred greater.
func keys(local int, first bool) noise.Keys {
	return noise.Keys{Send: key(local), Receive: key(50 + local), Local: uint32(local), Remote: uint32(100 + local), First: first}
}

// exchanged are those of the other side.
func exchanged(k noise.Keys) noise.Keys {
	return noise.Keys{Send: k.Receive, Receive: k.Send, Local: k.Remote, Remote: k.Local, First: !k.First}
}

// born is a pair of keys.
func born(t *testing.T, k noise.Keys, at int64) pair.Pair {
	t.Helper()
	p, e := pair.New(k, at)
	if e != api.OK {
		t.Fatalf("New: %v", e)
	}
	return p
}

// numbers of the pairs in slots that are made here.
const (
	prev = 3
	cur  = 4
	next = 5
)

// filled are slots of pairs that were born at a time; which of them are there is told by a number's last three digits: 1 of Prev, 2 of Cur, 4 of Next.
func filled(t *testing.T, which int, at int64) slots.Slots {
	t.Helper()
	var s slots.Slots
	if which&1 != 0 {
		s.HasPrev, s.Prev = true, born(t, keys(prev, true), at)
	}
	if which&2 != 0 {
		s.HasCur, s.Cur = true, born(t, keys(cur, true), at)
	}
	if which&4 != 0 {
		s.HasNext, s.Next = true, born(t, keys(next, false), at)
	}
	return s
}

// littered are slots with pairs also where none is there, which no call makes.
func littered(t *testing.T, which int, at int64) slots.Slots {
	t.Helper()
	s := filled(t, 7, at)
	s.HasPrev, s.HasCur, s.HasNext = which&1 != 0, which&2 != 0, which&4 != 0
	return s
}

// install are slots with new keys.
func install(t *testing.T, s slots.Slots, k noise.Keys, at int64) slots.Slots {
	t.Helper()
	out, e := s.Install(k, at)
	if e != api.OK {
		t.Fatalf("Install: %v", e)
	}
	return out
}

// came is a Data for the side that has keys, of a number, with whatever text.
func came(k noise.Keys, n uint64, plain []byte) wire.DataMsg {
	box, _ := aead.Seal(k.Receive, aead.Counter(n), plain, nil)
	return wire.DataMsg{Receiver: k.Local, Counter: n, Box: box}
}

// opens holds that slots open a text, with the keys of next or not.
func opens(t *testing.T, s slots.Slots, m wire.DataMsg, at int64, want []byte, first bool) slots.Slots {
	t.Helper()
	out, plain, got, e := s.Open(m, at)
	if e != api.OK || !bytes.Equal(plain, want) || got != first {
		t.Fatalf("Open of %d: %v %x %v, want %x %v", m.Receiver, e, plain, got, want, first)
	}
	return out
}

// unopened holds that slots do not open, and are as they were.
func unopened(t *testing.T, s slots.Slots, m wire.DataMsg, at int64, want api.Errno) {
	t.Helper()
	out, plain, first, e := s.Open(m, at)
	if e != want || out != s || len(plain) != 0 || first {
		t.Errorf("Open of %d at %d: %v, want %v; %v %x %v", m.Receiver, at, e, want, out, plain, first)
	}
}

// unsealed holds that slots do not seal, and are as they were.
func unsealed(t *testing.T, s slots.Slots, plain []byte, at int64, want api.Errno) {
	t.Helper()
	out, m, e := s.Seal(plain, at)
	if e != want || out != s || m.Receiver != 0 || m.Counter != 0 || len(m.Box) != 0 {
		t.Errorf("Seal at %d: %v, want %v; %v %v", at, e, want, out, m)
	}
}

// noTimes are numbers that are no times.
func noTimes() []int64 {
	return []int64{-1, -2, -api.RejectAfter, math.MinInt64, math.MinInt64 + api.RejectAfter, api.MaxTime + 1, api.MaxTime + api.RejectAfter, math.MaxInt64}
}

// The chapter's example.
func TestExample(t *testing.T) {
	s := install(t, slots.Slots{}, keys(1, false), 5)
	if want := (slots.Slots{HasNext: true, Next: born(t, keys(1, false), 5)}); s != want {
		t.Errorf("%v, want %v", s, want)
	}
	unsealed(t, s, nil, 5, api.ErrNone)
}

// P28.1: Install, with each of the pairs there or not.
func TestInstall(t *testing.T) {
	for _, at := range []int64{0, 5, 1000, 500000, api.MaxTime} {
		for which := range 8 {
			for _, s := range []slots.Slots{filled(t, which, 1000), littered(t, which, 1000)} {
				whole := filled(t, 7, 1000)
				one := slots.Slots{HasCur: true, Cur: born(t, keys(9, true), at)}
				switch {
				case which&4 != 0:
					one.HasPrev, one.Prev = true, whole.Next
				case which&2 != 0:
					one.HasPrev, one.Prev = true, whole.Cur
				}
				if got := install(t, s, keys(9, true), at); got != one {
					t.Errorf("%d: began: %v, want %v", which, got, one)
				}
				two := slots.Slots{HasNext: true, Next: born(t, keys(9, false), at)}
				if which&2 != 0 {
					two.HasCur, two.Cur = true, whole.Cur
				}
				if got := install(t, s, keys(9, false), at); got != two {
					t.Errorf("%d: did not begin: %v, want %v", which, got, two)
				}
			}
		}
	}
}

// P28.1: what pairs have sealed and opened goes with them where they go, and a new one has sealed and opened nothing.
func TestInstallMoves(t *testing.T) {
	s := filled(t, 7, 0)
	s.Cur.Sent, s.Next.Sent = 77, 88
	s.Next.Window, _ = s.Next.Window.Take(5)
	if got := install(t, s, keys(9, true), 1); got.Prev != s.Next || got.Cur.Sent != 0 || got.Cur.Window != (window.Window{}) || got.Cur.Born != 1 {
		t.Errorf("%v", got)
	}
	s.HasNext = false
	if got := install(t, s, keys(9, true), 1); got.Prev != s.Cur {
		t.Errorf("%v", got)
	}
	if got := install(t, s, keys(9, false), 1); got.Cur != s.Cur || got.Next != born(t, keys(9, false), 1) {
		t.Errorf("%v", got)
	}
}

// P28.1: Install at what is no time: New's error, and the slots as they were.
func TestInstallNoTime(t *testing.T) {
	for _, at := range noTimes() {
		for which := range 8 {
			for _, s := range []slots.Slots{filled(t, which, 1000), littered(t, which, 1000)} {
				for _, first := range []bool{true, false} {
					if got, e := s.Install(keys(9, first), at); e != api.ErrArg || got != s {
						t.Errorf("%d at %d: %v %v, want %v", which, at, e, got, s)
					}
				}
			}
		}
	}
}

// P28.1: how old pairs are, and whether the numbers are alike, is of no matter for Install.
func TestInstallAnyKeys(t *testing.T) {
	s := filled(t, 7, 0)
	for _, local := range []int{prev, cur, next} {
		got := install(t, s, keys(local, true), 1<<30)
		if got.Prev != s.Next || got.Cur != born(t, keys(local, true), 1<<30) || got.Count() != 2 {
			t.Errorf("%v", got)
		}
	}
	var zero slots.Slots
	if got := install(t, zero, noise.Keys{}, 0); !got.HasNext || got.Count() != 1 || got.Next != (pair.Pair{}) {
		t.Errorf("%v", got)
	}
}

// P28.2: Seal: with Cur alone, and what it seals.
func TestSeal(t *testing.T) {
	for which := range 8 {
		for _, s := range []slots.Slots{filled(t, which, 1000), littered(t, which, 1000)} {
			for _, n := range []int{0, 16, 32, 1504} {
				if which&2 == 0 {
					unsealed(t, s, row(1, n), 1000, api.ErrNone)
					continue
				}
				want := filled(t, which, 1000)
				p, m, _ := want.Cur.Seal(row(1, n), 180999)
				want.Cur = p
				got, told, e := s.Seal(row(1, n), 180999)
				if e != api.OK || got != want || told.Receiver != 100+cur || told.Counter != 0 || !bytes.Equal(told.Box, m.Box) {
					t.Errorf("%d: %v %v %v, want %v %v", which, e, got, told, want, m)
				}
			}
		}
	}
}

// P28.2: numbers are counted on, and the other side opens all.
func TestSealOn(t *testing.T) {
	s := filled(t, 7, 0)
	var o slots.Slots
	o = install(t, o, exchanged(keys(cur, true)), 0)
	for n := range uint64(50) {
		out, m, e := s.Seal(row(int(n), 32), 1)
		if e != api.OK || m.Counter != n || out.Cur.Sent != n+1 {
			t.Fatalf("%v %v", e, m)
		}
		o = opens(t, o, m, 2, row(int(n), 32), n == 0)
		s = out
	}
}

// P28.2: Seal's errors, in order; the slots are as they were.
func TestSealErrors(t *testing.T) {
	for _, which := range []int{2, 3, 6, 7} {
		for _, s := range []slots.Slots{filled(t, which, 1000), littered(t, which, 1000)} {
			for _, at := range []int64{-1, 999, 181000, api.MaxTime + 1, math.MinInt64, math.MaxInt64} {
				unsealed(t, s, row(1, 15), at, api.ErrOld)
			}
			for _, n := range []int{1, 15, 17, 1517, 1520, 1 << 16} {
				unsealed(t, s, row(1, n), 1000, api.ErrForm)
			}
			s.Cur.Sent = api.RejectMessages
			unsealed(t, s, row(1, 15), 1000, api.ErrSpent)
			unsealed(t, s, row(1, 15), 999, api.ErrOld)
		}
	}
	// Where there is no Cur, that comes ahead of all, also of what stands there.
	for _, which := range []int{0, 1, 4, 5} {
		s := littered(t, which, 1000)
		s.Cur.Sent = math.MaxUint64
		unsealed(t, s, row(1, 15), -1, api.ErrNone)
	}
}

// P28.3: Open, with each of the pairs there or not: the one whose number it is opens, and is Cur, if it was Next.
func TestOpen(t *testing.T) {
	for which := range 8 {
		for _, s := range []slots.Slots{filled(t, which, 1000), littered(t, which, 1000)} {
			for _, at := range []int64{1000, 180999} {
				whole := filled(t, which, 1000)
				for i, local := range []int{prev, cur, next} {
					m := came(keys(local, true), 7, row(local, 48))
					if which&(1<<i) == 0 {
						unopened(t, s, m, at, api.ErrIndex)
						continue
					}
					want := whole
					switch local {
					case prev:
						want.Prev.Window, _ = want.Prev.Window.Take(7)
					case cur:
						want.Cur.Window, _ = want.Cur.Window.Take(7)
					case next:
						want = slots.Slots{HasPrev: whole.HasCur, Prev: whole.Cur, HasCur: true, Cur: whole.Next}
						want.Cur.Window, _ = want.Cur.Window.Take(7)
					}
					got := opens(t, s, m, at, row(local, 48), local == next)
					if got != want {
						t.Errorf("%d: %d: %v, want %v", which, local, got, want)
					}
					unopened(t, got, m, at, api.ErrReplay)
				}
			}
		}
	}
}

// P28.3: of no bytes it is opened likewise.
func TestOpenNothing(t *testing.T) {
	s := filled(t, 7, 0)
	opens(t, s, came(keys(prev, true), 0, nil), 0, nil, false)
	opens(t, s, came(keys(cur, true), 0, nil), 0, nil, false)
	got := opens(t, s, came(keys(next, false), 0, nil), 0, nil, true)
	if got.Count() != 2 || got.Prev != s.Cur || got.HasNext {
		t.Errorf("%v", got)
	}
	// What was Next is Cur: of a second packet that is told no more.
	opens(t, got, came(keys(next, false), 1, nil), 0, nil, false)
}

// P28.3: Open's errors, in order, whichever pair it is; the slots are as they were, and Next is not Cur.
func TestOpenErrors(t *testing.T) {
	for _, litter := range []bool{false, true} {
		for i, local := range []int{prev, cur, next} {
			for _, which := range []int{1 << i, 7} {
				s := filled(t, which, 1000)
				if litter {
					s = littered(t, which, 1000)
				}
				for _, p := range []*pair.Pair{&s.Prev, &s.Cur, &s.Next} {
					p.Window, _ = p.Window.Take(150)
					p.Window, _ = p.Window.Take(200)
				}
				k := keys(local, true)
				turned := came(k, 150, row(1, 16))
				turned.Box[3] ^= 1
				for _, at := range []int64{-1, 999, 181000, api.MaxTime + 1, math.MinInt64, math.MaxInt64} {
					unopened(t, s, turned, at, api.ErrOld)
				}
				for _, n := range []uint64{0, 72, 150, 200} {
					turned.Counter = n
					unopened(t, s, turned, 1000, api.ErrReplay)
				}
				turned.Counter = api.RejectMessages
				unopened(t, s, turned, 1000, api.ErrSpent)
				turned.Counter = 73
				unopened(t, s, turned, 1000, api.ErrTag)
				for _, box := range [][]byte{nil, {}, make([]byte, 16), make([]byte, 2000)} {
					unopened(t, s, wire.DataMsg{Receiver: uint32(local), Counter: 201, Box: box}, 1000, api.ErrTag)
				}
				for _, other := range []int{prev, cur, next} {
					if other != local {
						m := came(keys(other, true), 201, row(1, 16))
						m.Receiver = uint32(local)
						unopened(t, s, m, 1000, api.ErrTag)
					}
				}
				for _, receiver := range []uint32{0, 2, 6, uint32(100 + local), 1<<31 + uint32(local), math.MaxUint32} {
					m := came(k, 201, row(1, 16))
					m.Receiver = receiver
					unopened(t, s, m, 1000, api.ErrIndex)
					m.Box = nil
					unopened(t, s, m, -1, api.ErrIndex)
				}
				opens(t, s, came(k, 201, row(1, 16)), 1000, row(1, 16), local == next)
			}
		}
	}
}

// P28.3: of pairs with one number Cur is found first, then Next, then Prev; the others are not asked.
func TestFoundFirst(t *testing.T) {
	alike := func(local int) noise.Keys {
		k := keys(local, true)
		k.Local = 42
		return k
	}
	for which := range 8 {
		s := littered(t, which, 0)
		s.Prev.Keys, s.Cur.Keys, s.Next.Keys = alike(prev), alike(cur), alike(next)
		found := 0
		switch {
		case which&2 != 0:
			found = cur
		case which&4 != 0:
			found = next
		case which&1 != 0:
			found = prev
		}
		for _, local := range []int{prev, cur, next} {
			m := came(alike(local), 0, row(2, 16))
			switch found {
			case 0:
				unopened(t, s, m, 0, api.ErrIndex)
			case local:
				opens(t, s, m, 0, row(2, 16), local == next)
			default:
				unopened(t, s, m, 0, api.ErrTag)
			}
		}
	}
}

// P28.3: the number of noughts is one as any other; of what is not there it is none's.
func TestNoughts(t *testing.T) {
	var s slots.Slots
	unopened(t, s, came(noise.Keys{}, 0, nil), 0, api.ErrIndex)
	s = install(t, s, noise.Keys{Remote: 7}, 0)
	s = opens(t, s, came(noise.Keys{}, 0, nil), 0, nil, true)
	if !s.HasCur || s.HasPrev || s.HasNext {
		t.Errorf("%v", s)
	}
	if _, m, e := s.Seal(nil, 0); e != api.OK || m.Receiver != 7 {
		t.Errorf("%v %v", m, e)
	}
}

// P28.1: Expire: each pair that is too old, and no other one.
func TestExpire(t *testing.T) {
	for which := range 8 {
		for old := range 8 {
			for _, litter := range []bool{false, true} {
				s := filled(t, which, 1000)
				if litter {
					s = littered(t, which, 1000)
				}
				for i, p := range []*pair.Pair{&s.Prev, &s.Cur, &s.Next} {
					if old&(1<<i) == 0 {
						p.Born = 1001
					}
				}
				want := filled(t, which&^old, 1001)
				if got := s.Expire(181000); got != want {
					t.Errorf("%d, of which %d: %v, want %v", which, old, got, want)
				}
			}
		}
		s := filled(t, which, 1000)
		for _, at := range []int64{1000, 1001, 120999, 180999} {
			if got := s.Expire(at); got != s || littered(t, which, 1000).Expire(at) != s {
				t.Errorf("%d at %d: %v, want %v", which, at, got, s)
			}
		}
		for _, at := range append(noTimes(), 0, 999, 181000, 181001, api.MaxTime) {
			if got := s.Expire(at); got != (slots.Slots{}) {
				t.Errorf("%d at %d: %v", which, at, got)
			}
		}
	}
}

// P28.1: what pairs have sealed and opened stays with those that Expire leaves.
func TestExpireKeeps(t *testing.T) {
	s := filled(t, 7, 1000)
	s.Prev.Sent, s.Cur.Sent, s.Next.Sent = 1, math.MaxUint64, 1<<60
	s.Cur.Window, _ = s.Cur.Window.Take(9)
	if got := s.Expire(1000); got != s {
		t.Errorf("%v, want %v", got, s)
	}
}

// P28.1: Ready: a Cur that is not too old, and has sealed fewer than RejectMessages.
func TestReady(t *testing.T) {
	for which := range 8 {
		for _, s := range []slots.Slots{filled(t, which, 1000), littered(t, which, 1000)} {
			for _, at := range append(noTimes(), 0, 999, 1000, 120999, 121000, 180999, 181000, api.MaxTime) {
				for _, sent := range []uint64{0, 1 << 60, api.RejectMessages - 1, api.RejectMessages, api.RejectMessages + 1, math.MaxUint64} {
					s.Cur.Sent = sent
					want := which&2 != 0 && at >= 1000 && at < 181000 && sent < api.RejectMessages
					if got := s.Ready(at); got != want {
						t.Errorf("%d at %d, %d sealed: %v", which, at, sent, got)
					}
					// Ready is what seals.
					if _, _, e := s.Seal(nil, at); (e == api.OK) != want {
						t.Errorf("%d at %d, %d sealed: %v", which, at, sent, e)
					}
				}
			}
		}
	}
}

// P28.1: Tired: no Cur, or one that is tired.
func TestTired(t *testing.T) {
	for which := range 8 {
		for _, s := range []slots.Slots{filled(t, which, 1000), littered(t, which, 1000)} {
			for _, at := range append(noTimes(), 0, 999, 1000, 120999, 121000, 180999, 181000, api.MaxTime) {
				for _, sent := range []uint64{0, 1<<60 - 1, 1 << 60, api.RejectMessages, math.MaxUint64} {
					for _, first := range []bool{true, false} {
						s.Cur.Sent, s.Cur.Keys.First = sent, first
						s.Prev.Sent, s.Next.Sent = 1<<60, 1<<60
						old := at < 1000 || at >= 181000
						want := which&2 == 0 || old || sent >= 1<<60 || first && at >= 121000
						if got := s.Tired(at); got != want {
							t.Errorf("%d at %d, %d sealed, %v: %v", which, at, sent, first, got)
						}
					}
				}
			}
		}
	}
}

// P28.1: Indices and Count, with each of the pairs there or not, however old.
func TestIndices(t *testing.T) {
	for which := range 8 {
		var want []uint32
		for i, local := range []uint32{prev, cur, next} {
			if which&(1<<i) != 0 {
				want = append(want, local)
			}
		}
		for _, s := range []slots.Slots{filled(t, which, 1000), littered(t, which, 0)} {
			for range 2 {
				got := s.Indices()
				if !slices.Equal(got, want) || s.Count() != len(want) || cap(got) != len(got) {
					t.Errorf("%d: %v %d, want %v", which, got, s.Count(), want)
				}
				clear(got)
			}
		}
	}
	// Alike numbers are told as often as they are there.
	s := filled(t, 7, 0)
	s.Prev.Keys.Local, s.Next.Keys.Local = cur, cur
	if got := s.Indices(); !slices.Equal(got, []uint32{cur, cur, cur}) || s.Count() != 3 {
		t.Errorf("%v", got)
	}
}

// Slots are a value: no call changes those that it is asked of, nor what it is handed.
func TestValue(t *testing.T) {
	for which := range 8 {
		s := littered(t, which, 0)
		was := s
		whole := append(row(1, 32), row(2, 32)...)
		kept := slices.Clone(whole)
		s.Install(keys(9, true), 0)
		s.Install(keys(9, false), 0)
		s.Seal(whole[:32], 0)
		for _, local := range []int{prev, cur, next} {
			m := came(keys(local, true), 0, row(1, 32))
			wide := append(slices.Clone(m.Box), row(2, 32)...)
			box := slices.Clone(wide)
			m.Box = wide[:len(m.Box)]
			_, one, _, _ := s.Open(m, 0)
			_, two, _, _ := s.Open(m, 0)
			clear(two[:cap(two)])
			if !bytes.Equal(wide, box) || len(one) > 0 && !bytes.Equal(one, row(1, 32)) {
				t.Errorf("%d: Open of %d shares memory", which, local)
			}
		}
		s.Expire(180000)
		s.Indices()
		if s != was || !bytes.Equal(whole, kept) {
			t.Errorf("%d: %v, was %v", which, s, was)
		}
	}
}

// P1: slots that no call made: all calls end.
func TestMadeByHand(t *testing.T) {
	r := rand.New(rand.NewPCG(28, 1))
	for range 2000 {
		some := func() pair.Pair {
			return pair.Pair{Keys: keys(r.IntN(5), r.IntN(2) == 0), Born: int64(r.Uint64()) >> r.IntN(64), Sent: r.Uint64()}
		}
		s := slots.Slots{HasPrev: r.IntN(2) == 0, HasCur: r.IntN(2) == 0, HasNext: r.IntN(2) == 0, Prev: some(), Cur: some(), Next: some()}
		at := int64(r.Uint64()) >> r.IntN(64)
		s.Install(keys(9, true), at)
		s.Seal(row(1, r.IntN(40)), at)
		s.Open(came(keys(r.IntN(6), true), uint64(r.IntN(5)), row(1, r.IntN(40))), at)
		s.Ready(at)
		s.Tired(at)
		s.Indices()
		if got := s.Expire(at); got.Count() > s.Count() || got.Expire(at) != got {
			t.Errorf("%v", got)
		}
	}
}

// stand is a pair that a model has, and as what.
type stand struct {
	as int
	p  pair.Pair
}

// model is slots as a row of pairs, in whatever order.
type model []stand

// of is the pair that stands as something.
func (m model) of(as int) (pair.Pair, bool) {
	i := slices.IndexFunc(m, func(x stand) bool { return x.as == as })
	if i < 0 {
		return pair.Pair{}, false
	}
	return m[i].p, true
}

// with is a model in which one pair stands as something, and what stood so is gone.
func (m model) with(as int, p pair.Pair, there bool) model {
	out := slices.DeleteFunc(slices.Clone(m), func(x stand) bool { return x.as == as })
	if there {
		out = append(out, stand{as, p})
	}
	return out
}

// slots are those of a model.
func (m model) slots() slots.Slots {
	var s slots.Slots
	s.Prev, s.HasPrev = m.of(prev)
	s.Cur, s.HasCur = m.of(cur)
	s.Next, s.HasNext = m.of(next)
	return s
}

// install is a model with new keys.
func (m model) install(p pair.Pair) model {
	if !p.Keys.First {
		return m.with(next, p, true).with(prev, pair.Pair{}, false)
	}
	last, there := m.of(next)
	if !there {
		last, there = m.of(cur)
	}
	return m.with(prev, last, there).with(next, pair.Pair{}, false).with(cur, p, true)
}

// open is a model that opened a text.
func (m model) open(d wire.DataMsg, at int64) (model, []byte, bool, api.Errno) {
	for _, as := range []int{cur, next, prev} {
		p, there := m.of(as)
		if !there || p.Keys.Local != d.Receiver {
			continue
		}
		q, plain, e := p.Open(d, at)
		if e != api.OK {
			return m, nil, false, e
		}
		if as != next {
			return m.with(as, q, true), plain, false, e
		}
		last, there := m.of(cur)
		return m.with(next, q, false).with(prev, last, there).with(cur, q, true), plain, true, e
	}
	return m, nil, false, api.ErrIndex
}

// P28.1 to P28.4: whatever is done, slots are as a model tells, never more than three pairs.
func TestModel(t *testing.T) {
	r := rand.New(rand.NewPCG(28, 4))
	for range 200 {
		var s slots.Slots
		var m model
		now := int64(r.IntN(1000))
		for range 120 {
			now += int64(r.IntN(20000))
			switch r.IntN(6) {
			case 0:
				k := keys(1+r.IntN(8), r.IntN(2) == 0)
				s, m = install(t, s, k, now), m.install(born(t, k, now))
			case 1:
				s = s.Expire(now)
				m = slices.DeleteFunc(slices.Clone(m), func(x stand) bool { return now-x.p.Born >= 180000 })
			case 2:
				p, there := m.of(cur)
				if !there {
					unsealed(t, s, nil, now, api.ErrNone)
					break
				}
				q, want, e := p.Seal(row(1, 16), now)
				out, got, f := s.Seal(row(1, 16), now)
				if e != f || got.Receiver != want.Receiver || got.Counter != want.Counter || !bytes.Equal(got.Box, want.Box) {
					t.Fatalf("%v %v, want %v %v", f, got, e, want)
				}
				s, m = out, m.with(cur, q, true)
			default:
				d := came(keys(1+r.IntN(8), true), uint64(r.IntN(4)), row(3, 16))
				out, got, first, e := s.Open(d, now)
				after, want, second, f := m.open(d, now)
				if e != f || first != second || !bytes.Equal(got, want) {
					t.Fatalf("%v %x %v, want %v %x %v", e, got, first, f, want, second)
				}
				s, m = out, after
			}
			if s != m.slots() || s.Count() != len(m) || len(m) > 3 {
				t.Fatalf("%v, want %v", s, m)
			}
		}
	}
}

// handshake is the keys of one between two, which both installed: the first one began.
func handshake(t *testing.T, n uint32) (noise.Keys, noise.Keys) {
	t.Helper()
	s, hello, e := noise.Begin(key(1), curve.Public(key(2)), key(int(3+n)), [12]byte{byte(n)}, n)
	if e != api.OK {
		t.Fatal(e)
	}
	u, _, e := noise.Hear(key(2), hello)
	if e != api.OK {
		t.Fatal(e)
	}
	k, answer, e := noise.Reply(u, key(5), key(int(40+n)), 1000+n)
	if e != api.OK {
		t.Fatal(e)
	}
	l, e := noise.Finish(s, key(1), key(5), answer)
	if e != api.OK {
		t.Fatal(e)
	}
	return l, k
}

// P28.4, P28.5: behind a handshake the one who did not begin seals nothing with it, until the other side has.
func TestFirstSealsFirst(t *testing.T) {
	var a, b slots.Slots
	for n := range uint32(4) {
		k, l := handshake(t, n)
		was, _, before := b.Seal(nil, 20)
		b = install(t, b, l, int64(10+n))
		a = install(t, a, k, int64(10+n))
		if n == 0 {
			unsealed(t, b, nil, 20, api.ErrNone)
		} else if before != api.OK {
			t.Fatal(before)
		}
		// Till then it seals with what it had, and the other side still opens that.
		for range 3 {
			if n > 0 {
				out, m, e := b.Seal(row(1, 16), 20)
				if e != api.OK || m.Receiver == l.Remote || m.Receiver != was.Cur.Keys.Remote {
					t.Fatalf("%v %v", m, e)
				}
				b = out
				a = opens(t, a, m, 20, row(1, 16), false)
			}
		}
		out, m, e := a.Seal(row(2, 16), 20)
		if e != api.OK || m.Receiver != k.Remote {
			t.Fatalf("%v %v", m, e)
		}
		a = out
		b = opens(t, b, m, 20, row(2, 16), true)
		out, m, e = b.Seal(row(3, 16), 20)
		if e != api.OK || m.Receiver != l.Remote {
			t.Fatalf("%v %v", m, e)
		}
		b = out
		a = opens(t, a, m, 20, row(3, 16), false)
	}
}

// letter is what is on its way to one of two sides.
type letter struct {
	to    int
	m     wire.DataMsg
	plain []byte
	last  bool // was it sealed with the last handshake's keys?
}

// P28.5, P28.4: what both sides installed of one handshake, whoever began, and in whatever order they seal, is opened, once.
func TestBothSides(t *testing.T) {
	r := rand.New(rand.NewPCG(28, 5))
	began, answered := handshake(t, 1)
	for range 60 {
		var both [2]slots.Slots
		now, number := int64(0), uint32(1)
		for range 12 {
			// Keys of a handshake of their own: what it agreed on is told by its numbers.
			number += 2
			first := r.IntN(2)
			k, l := began, answered
			k.Send[0], l.Receive[0] = byte(number), byte(number)
			k.Local, k.Remote, l.Local, l.Remote = number, number+1, number+1, number
			both[1-first] = install(t, both[1-first], l, now)
			both[first] = install(t, both[first], k, now)
			var way []letter
			for range 30 {
				now += int64(r.IntN(1000))
				if side := r.IntN(2); r.IntN(2) == 0 || len(way) == 0 {
					plain := row(r.IntN(100), 16*r.IntN(4))
					out, m, e := both[side].Seal(plain, now)
					if e != api.OK && e != api.ErrNone && e != api.ErrOld {
						t.Fatal(e)
					}
					if e == api.OK {
						way = append(way, letter{1 - side, m, plain, m.Receiver == number || m.Receiver == number+1})
						both[side] = out
					}
					continue
				}
				i := r.IntN(len(way))
				x := way[i]
				way = slices.Delete(way, i, i+1)
				out, plain, _, e := both[x.to].Open(x.m, now)
				if x.last && (e != api.OK || !bytes.Equal(plain, x.plain)) {
					t.Fatalf("%v %x, want %x", e, plain, x.plain)
				}
				both[x.to] = out
				if x.last {
					unopened(t, out, x.m, now, api.ErrReplay)
				}
				if both[0].Count() > 3 || both[1].Count() > 3 {
					t.Fatalf("%v", both)
				}
			}
			if out, _, _, e := both[1-first].Open(came(l, 1<<40, nil), now); e != api.OK || out.Cur.Keys != l {
				t.Fatalf("%v %v", e, out)
			}
		}
	}
}

// P28.6: behind RejectAfter milliseconds without a handshake nothing is there, whatever was done.
func TestNothingLeft(t *testing.T) {
	r := rand.New(rand.NewPCG(28, 6))
	for range 200 {
		var s slots.Slots
		now := int64(0)
		for n := range 1 + r.IntN(5) {
			now += int64(r.IntN(50000))
			s = install(t, s, keys(n, r.IntN(2) == 0), now)
			if r.IntN(2) == 0 {
				s, _, _, _ = s.Open(came(keys(n, false), 0, nil), now)
			}
		}
		if s.Expire(now+api.RejectAfter-1) == (slots.Slots{}) {
			t.Error("the last keys are gone too early")
		}
		for at := now; at < now+api.RejectAfter; at += 10000 {
			s, _, _ = s.Seal(nil, at)
			s, _, _, _ = s.Open(came(keys(r.IntN(5), false), uint64(at), nil), at)
			if r.IntN(4) == 0 {
				s = s.Expire(at)
			}
		}
		for _, at := range []int64{now + api.RejectAfter, now + api.RejectAfter + 1, api.MaxTime} {
			got := s.Expire(at)
			if got != (slots.Slots{}) || got.Count() != 0 || len(got.Indices()) != 0 || s.Ready(at) || !s.Tired(at) {
				t.Errorf("%v", got)
			}
		}
	}
}
