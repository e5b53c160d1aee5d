package vstore_test

import (
	"bytes"
	"math"
	"math/rand/v2"
	"slices"
	"testing"

	"adit/api"
	"adit/cidr"
	"adit/record"
	"adit/vstore"
)

// mostOfOne is how many reads, and how many writes, are committed at once at most.
const mostOfOne = 2 * api.MaxBatch

// key is a key of a number, whose bytes stand as numbers do.
func key(n int) api.Key { return api.Key{0: byte(n >> 8), 31: byte(n)} }

// prefix is a text's prefix.
func prefix(s string) api.Prefix {
	p, e := cidr.ParsePrefix(s)
	if e != api.OK {
		panic(s)
	}
	return p
}

// addr is a text's address.
func addr(s string) api.Addr {
	a, e := cidr.Parse(s)
	if e != api.OK {
		panic(s)
	}
	return a
}

// route is the prefix of a number; of greater numbers they stand behind.
func route(n int) api.Prefix {
	return api.Prefix{Addr: api.Addr{B: [16]byte{10, byte(n >> 8), byte(n)}}, Bits: 24}
}

// routes are the prefixes of numbers from one on up to another one.
func routes(from, to int) []api.Prefix {
	var out []api.Prefix
	for n := from; n < to; n++ {
		out = append(out, route(n))
	}
	return out
}

// peer is the peer of a number, with routes.
func peer(n int, l ...api.Prefix) record.Peer {
	return record.Peer{Public: key(n), Shared: key(1000 + n), HasEnd: true, End: api.End{Port: 1 + n}, Keep: n, Routes: l}
}

// put is a write that puts a number's peer.
func put(n int, l ...api.Prefix) vstore.Write { return vstore.Write{Peer: peer(n, l...)} }

// gone is a write that takes a number's peer away.
func gone(n int) vstore.Write {
	return vstore.Write{Peer: record.Peer{Public: key(n)}, Gone: true}
}

// read says that a number's peer has a version.
func read(n int, version uint64) vstore.Read { return vstore.Read{Key: key(n), Version: version} }

// event is what became of a number's peer by a version.
func event(kind, n int, version uint64) vstore.Event {
	return vstore.Event{Kind: kind, Key: key(n), Version: version}
}

// writes is a row of writes.
func writes(l ...vstore.Write) []vstore.Write { return l }

// copied is an equal peer with a list of its own.
func copied(p record.Peer) record.Peer {
	p.Routes = slices.Clone(p.Routes)
	return p
}

// isZero tells whether a peer is the zero one.
func isZero(p record.Peer) bool { return record.Same(p, record.Peer{}) }

// filled is a peer of the model.
type filled struct {
	there   bool
	peer    record.Peer
	version uint64
}

// model is what a store has, slot by slot; of slot 0 there is none.
type model struct {
	version uint64
	slots   [api.MaxPeers + 1]filled
}

// slot is a key's slot; 0, if there is none.
func (m model) slot(k api.Key) int {
	for i, x := range m.slots {
		if x.there && x.peer.Public == k {
			return i
		}
	}
	return 0
}

// keys are all keys, rising.
func (m model) keys() []api.Key {
	var out []api.Key
	for _, x := range m.slots {
		if x.there {
			out = append(out, x.peer.Public)
		}
	}
	slices.SortFunc(out, func(a, b api.Key) int { return bytes.Compare(a[:], b[:]) })
	return out
}

// owner is the one with the longest route that holds an address.
func (m model) owner(a api.Addr) (api.Key, bool) {
	longest := -1
	var out api.Key
	for _, x := range m.slots {
		for _, r := range x.peer.Routes {
			if x.there && cidr.Holds(r, a) && r.Bits > longest {
				longest, out = r.Bits, x.peer.Public
			}
		}
	}
	return out, longest >= 0
}

// check is the error that reads and writes have ahead of all writes.
func (m model) check(reads []vstore.Read, writes []vstore.Write) api.Errno {
	if len(reads) > 16 || len(writes) > 16 {
		return api.ErrLong
	}
	seen := map[api.Key]int{}
	for _, w := range writes {
		seen[w.Peer.Public]++
		bare := record.Same(w.Peer, record.Peer{Public: w.Peer.Public})
		if seen[w.Peer.Public] > 1 || w.Gone && !bare || !w.Gone && !record.Right(w.Peer) {
			return api.ErrForm
		}
	}
	for _, r := range reads {
		if m.slots[m.slot(r.Key)].version != r.Version {
			return api.ErrVersion
		}
	}
	for _, w := range writes {
		if w.Gone && m.slot(w.Peer.Public) == 0 {
			return api.ErrNone
		}
	}
	return api.OK
}

// commit is the model behind a commit, and what that answers; with an error the model is as it was.
func (m model) commit(reads []vstore.Read, writes []vstore.Write) (model, []vstore.Event, api.Errno) {
	if e := m.check(reads, writes); e != api.OK {
		return m, nil, e
	}
	out := m
	out.version++
	var events []vstore.Event
	for _, w := range writes {
		k := w.Peer.Public
		kind := vstore.Changed
		at := out.slot(k)
		if w.Gone {
			out.slots[at] = filled{}
			events = append(events, vstore.Event{Kind: vstore.Removed, Key: k, Version: out.version})
			continue
		}
		if at == 0 {
			kind = vstore.Added
			at = slices.IndexFunc(out.slots[1:], func(x filled) bool { return !x.there }) + 1
		}
		if at == 0 {
			return m, nil, api.ErrFull
		}
		out.slots[at] = filled{true, copied(w.Peer), out.version}
		for _, other := range out.keys() {
			i := out.slot(other)
			var kept []api.Prefix
			for _, r := range out.slots[i].peer.Routes {
				if !slices.Contains(w.Peer.Routes, r) {
					kept = append(kept, r)
				}
			}
			if i != at && len(kept) < len(out.slots[i].peer.Routes) {
				out.slots[i].peer.Routes, out.slots[i].version = kept, out.version
				events = append(events, vstore.Event{Kind: vstore.Changed, Key: other, Version: out.version})
			}
		}
		all := 0
		for _, x := range out.slots {
			all += len(x.peer.Routes)
		}
		if all > api.MaxRoutes {
			return m, nil, api.ErrFull
		}
		events = append(events, vstore.Event{Kind: kind, Key: k, Version: out.version})
	}
	return out, events, api.OK
}

// agree holds that a store has what a model has.
func agree(t *testing.T, s *vstore.Store, m model) {
	t.Helper()
	keys := s.Keys()
	if s.Version() != m.version || !slices.Equal(keys, m.keys()) || cap(keys) != len(keys) {
		t.Fatalf("version %d, keys %v; want %d, %v", s.Version(), keys, m.version, m.keys())
	}
	for _, k := range m.keys() {
		i := m.slot(k)
		p, v, there := s.Get(k)
		if x := m.slots[i]; !there || v != x.version || !record.Same(p, x.peer) || s.Slot(k) != i {
			t.Fatalf("%v: %v, version %d, slot %d; want %v in %d", k, p, v, s.Slot(k), x, i)
		}
		if cap(p.Routes) != len(p.Routes) {
			t.Fatalf("%v: there is room behind the routes", k)
		}
	}
	for i := -2; i <= api.MaxPeers+2; i++ {
		k, there := s.At(i)
		if want := i > 0 && i <= api.MaxPeers && m.slots[i].there; there != want || there && k != m.slots[i].peer.Public || !there && k != (api.Key{}) {
			t.Fatalf("At(%d): %v %v", i, k, there)
		}
	}
}

// owns holds whose an address is, as a model tells it.
func owns(t *testing.T, s *vstore.Store, m model, a api.Addr) {
	t.Helper()
	k, there := s.Owner(a)
	if want, some := m.owner(a); k != want || there != some {
		t.Fatalf("Owner(%v): %v %v, want %v %v", a, k, there, want, some)
	}
}

// commit commits to a store and a model, and holds that both answer the same and then have the same.
func commit(t *testing.T, s *vstore.Store, m model, reads []vstore.Read, writes []vstore.Write) model {
	t.Helper()
	next, events, fault := m.commit(reads, writes)
	version := next.version
	if fault != api.OK {
		version = 0
	}
	v, l, e := s.Commit(reads, writes)
	if v != version || e != fault || !slices.Equal(l, events) || cap(l) != len(l) {
		t.Fatalf("Commit(%v, %v): %d %v %v, want %d %v %v", reads, writes, v, l, e, version, events, fault)
	}
	agree(t, s, next)
	return next
}

// commits holds what a commit that is done answers.
func commits(t *testing.T, s *vstore.Store, reads []vstore.Read, writes []vstore.Write, version uint64, want ...vstore.Event) {
	t.Helper()
	v, l, e := s.Commit(reads, writes)
	if v != version || e != api.OK || !slices.Equal(l, want) {
		t.Fatalf("Commit: %d %v %v, want %d %v", v, l, e, version, want)
	}
	if s.Version() != version {
		t.Fatalf("Version: %d, want %d", s.Version(), version)
	}
}

// refuses holds that a commit is not done, and that nothing has changed.
func refuses(t *testing.T, s *vstore.Store, reads []vstore.Read, writes []vstore.Write, want api.Errno) {
	t.Helper()
	before := seen(s)
	if v, l, e := s.Commit(reads, writes); v != 0 || len(l) != 0 || e != want {
		t.Fatalf("Commit: %d %v %v, want %v", v, l, e, want)
	}
	agree(t, s, before)
}

// seen is a model of what a store tells.
func seen(s *vstore.Store) model {
	m := model{version: s.Version()}
	for _, k := range s.Keys() {
		p, v, there := s.Get(k)
		m.slots[s.Slot(k)] = filled{there, p, v}
	}
	return m
}

// pins makes a pin, and holds its number.
func pins(t *testing.T, s *vstore.Store, want uint64) {
	t.Helper()
	if n, e := s.Pin(); n != want || e != api.OK {
		t.Fatalf("Pin: %d %v, want %d", n, e, want)
	}
}

// unpins holds what Unpin answers.
func unpins(t *testing.T, s *vstore.Store, n uint64, want bool) {
	t.Helper()
	if got := s.Unpin(n); got != want {
		t.Fatalf("Unpin(%d): %v", n, got)
	}
}

// page holds which peers a page tells.
func page(t *testing.T, s *vstore.Store, pin uint64, after api.Key, more bool, n int, want ...record.Peer) {
	t.Helper()
	l, e := s.Page(pin, after, more, n)
	if e != api.OK || !slices.EqualFunc(l, want, record.Same) || cap(l) != len(l) {
		t.Fatalf("Page(%d, %v, %v, %d): %v %v, want %v", pin, after, more, n, l, e, want)
	}
	for _, p := range l {
		if cap(p.Routes) != len(p.Routes) {
			t.Fatalf("Page(%d, %v, %v, %d): there is room behind the routes", pin, after, more, n)
		}
	}
}

// noPage holds that a pin is not kept.
func noPage(t *testing.T, s *vstore.Store, pin uint64) {
	t.Helper()
	for _, n := range []int{math.MinInt, -1, 0, 1, api.MaxPeers, math.MaxInt} {
		if l, e := s.Page(pin, api.Key{}, n%2 == 0, n); len(l) != 0 || e != api.ErrExpired {
			t.Fatalf("Page(%d) of %d: %v %v", pin, n, l, e)
		}
	}
}

// The chapter's example.
func TestExample(t *testing.T) {
	s := vstore.New()
	commits(t, s, nil, writes(put(1)), 1, event(vstore.Added, 1, 1))
	refuses(t, s, []vstore.Read{read(1, 0)}, writes(put(1)), api.ErrVersion)
}

// The kinds of events have the chapter's numbers.
func TestKinds(t *testing.T) {
	if l := []int{vstore.Added, vstore.Changed, vstore.Removed}; !slices.Equal(l, []int{1, 2, 3}) {
		t.Errorf("kinds: %v", l)
	}
}

// P24.1: a store that is new has nothing.
func TestNew(t *testing.T) {
	s := vstore.New()
	agree(t, s, model{})
	for _, k := range []api.Key{{}, key(1), key(65535)} {
		if p, v, there := s.Get(k); !isZero(p) || v != 0 || there || s.Slot(k) != 0 {
			t.Errorf("%v: %v %d %v, slot %d", k, p, v, there, s.Slot(k))
		}
	}
	for _, i := range []int{math.MinInt, -1, 0, 1, 16, 17, math.MaxInt} {
		if k, there := s.At(i); k != (api.Key{}) || there {
			t.Errorf("At(%d): %v", i, k)
		}
	}
	owns(t, s, model{}, addr("10.0.0.1"))
	owns(t, s, model{}, addr("::"))
	noPage(t, s, 0)
	noPage(t, s, 1)
	unpins(t, s, 0, false)
	unpins(t, s, 1, false)
	pins(t, s, 1)
	page(t, s, 1, api.Key{}, false, 9)
	refuses(t, s, nil, writes(gone(1)), api.ErrNone)
	agree(t, s, model{})
}

// P24.1: stores that are nil, or that no call made; ErrNil is told ahead of all else.
func TestNil(t *testing.T) {
	for _, s := range []*vstore.Store{nil, {}, new(vstore.Store)} {
		for range 2 {
			for _, l := range [][]vstore.Write{nil, writes(put(1)), writes(gone(1)), writes(put(1), put(1)), make([]vstore.Write, mostOfOne+1)} {
				for _, r := range [][]vstore.Read{nil, {read(1, 1)}, make([]vstore.Read, mostOfOne+1)} {
					if v, events, e := s.Commit(r, l); v != 0 || len(events) != 0 || e != api.ErrNil {
						t.Errorf("Commit: %d %v %v", v, events, e)
					}
				}
			}
			if p, v, there := s.Get(key(1)); !isZero(p) || v != 0 || there {
				t.Errorf("Get: %v %d %v", p, v, there)
			}
			if s.Version() != 0 || s.Slot(key(1)) != 0 || s.Slot(api.Key{}) != 0 || len(s.Keys()) != 0 {
				t.Errorf("Version %d, Keys %v", s.Version(), s.Keys())
			}
			for _, i := range []int{math.MinInt, -1, 0, 1, math.MaxInt} {
				if k, there := s.At(i); k != (api.Key{}) || there {
					t.Errorf("At(%d): %v %v", i, k, there)
				}
			}
			if k, there := s.Owner(addr("10.0.0.1")); k != (api.Key{}) || there {
				t.Errorf("Owner: %v %v", k, there)
			}
			if n, e := s.Pin(); n != 0 || e != api.ErrNil {
				t.Errorf("Pin: %d %v", n, e)
			}
			for _, n := range []uint64{0, 1, math.MaxUint64} {
				unpins(t, s, n, false)
				if l, e := s.Page(n, api.Key{}, n == 0, int(n)); len(l) != 0 || e != api.ErrNil {
					t.Errorf("Page: %v %v", l, e)
				}
			}
		}
	}
}

// P1: a store that is copied by its value goes its own way.
func TestCopied(t *testing.T) {
	s := vstore.New()
	m := commit(t, s, model{}, nil, writes(put(1, route(1)), put(2, route(2))))
	pins(t, s, 1)
	pins(t, s, 2)
	pins(t, s, 3)
	c := *s
	own := commit(t, &c, m, nil, writes(put(3, route(1), route(2)), gone(2)))
	pins(t, &c, 4)
	pins(t, &c, 5)
	unpins(t, &c, 3, true)
	agree(t, s, m)
	commit(t, s, m, nil, writes(put(5, route(2))))
	pins(t, s, 4)
	unpins(t, s, 2, true)
	agree(t, &c, own)
	for _, n := range []uint64{1, 3} {
		page(t, s, n, api.Key{}, false, 9, peer(1, route(1)), peer(2, route(2)))
		noPage(t, &c, n)
	}
	noPage(t, s, 2)
	page(t, &c, 2, api.Key{}, false, 9, peer(1, route(1)), peer(2, route(2)))
	page(t, s, 4, api.Key{}, false, 9, peer(1, route(1)), peer(2), peer(5, route(2)))
	page(t, &c, 4, api.Key{}, false, 9, peer(1), peer(3, route(1), route(2)))
	page(t, &c, 5, api.Key{}, false, 9, peer(1), peer(3, route(1), route(2)))
	noPage(t, s, 5)
}

// P1: pins that are made and taken away in a copy of a store are not the store's, nor the other way round.
func TestCopiedPins(t *testing.T) {
	for from := range uint64(api.MaxPins + 3) {
		for taken := range from + 1 {
			s := vstore.New()
			for n := range from {
				pins(t, s, n+1)
			}
			s.Unpin(taken)
			c := *s
			commits(t, s, nil, writes(put(1)), 1, event(vstore.Added, 1, 1))
			pins(t, s, from+1)
			commits(t, &c, nil, writes(put(2)), 1, event(vstore.Added, 2, 1))
			pins(t, &c, from+1)
			page(t, s, from+1, api.Key{}, false, 9, peer(1))
			page(t, &c, from+1, api.Key{}, false, 9, peer(2))
			d := *s
			first := from + 1 - min(from, 2)
			s.Unpin(first)
			noPage(t, s, first)
			page(t, &d, from+1, api.Key{}, false, 9, peer(1))
			unpins(t, &d, first, first != taken)
		}
	}
}

// P24.1: Get tells a peer as it was put, and its version.
func TestGet(t *testing.T) {
	s := vstore.New()
	all := []record.Peer{
		{}, {Public: key(1)}, {Public: key(2), Shared: key(9)}, peer(3), peer(4, prefix("0.0.0.0/0"), prefix("::/0")), peer(5, routes(0, 20)...),
		{Public: key(6), HasEnd: true, End: api.End{Addr: addr("2001:db8::1"), Port: 65535}, Keep: 65535},
	}
	for i, p := range all {
		commits(t, s, nil, writes(vstore.Write{Peer: p}), uint64(i+1), vstore.Event{Kind: vstore.Added, Key: p.Public, Version: uint64(i + 1)})
		for j, q := range all {
			got, v, there := s.Get(q.Public)
			if j <= i && (!record.Same(got, q) || v != uint64(j+1) || !there) || j > i && (!isZero(got) || v != 0 || there) {
				t.Errorf("%d of %d: %v %d %v", j, i, got, v, there)
			}
		}
	}
	for i, p := range all {
		commits(t, s, nil, writes(vstore.Write{Peer: record.Peer{Public: p.Public}, Gone: true}), uint64(len(all)+i+1), vstore.Event{Kind: vstore.Removed, Key: p.Public, Version: uint64(len(all) + i + 1)})
		if got, v, there := s.Get(p.Public); !isZero(got) || v != 0 || there || s.Slot(p.Public) != 0 {
			t.Errorf("%d: %v %d %v", i, got, v, there)
		}
	}
	agree(t, s, model{version: uint64(2 * len(all))})
}

// P24.1: keys rise as bytes, in whatever order they come.
func TestKeys(t *testing.T) {
	want := []api.Key{{}, {31: 1}, {31: 127}, {31: 128}, {31: 255}, {30: 1}, {15: 200}, {0: 1}, {0: 1, 31: 1}, {0: 127, 1: 255}, {0: 128}, {0: 255}, {0: 255, 31: 255}}
	r := rand.New(rand.NewPCG(24, 1))
	for range 100 {
		s := vstore.New()
		for i, j := range r.Perm(len(want)) {
			if _, _, e := s.Commit(nil, writes(vstore.Write{Peer: record.Peer{Public: want[j]}})); e != api.OK || s.Slot(want[j]) != i+1 {
				t.Fatalf("%v: %v, slot %d", want[j], e, s.Slot(want[j]))
			}
		}
		if got := s.Keys(); !slices.Equal(got, want) {
			t.Fatalf("Keys: %v", got)
		}
	}
}

// P24.1: Owner is the one of the longest route that holds an address.
func TestOwner(t *testing.T) {
	s := vstore.New()
	m := commit(t, s, model{}, nil, writes(put(1, prefix("0.0.0.0/0"), prefix("10.0.0.0/8"), prefix("10.1.2.3/32")), put(2, prefix("10.1.0.0/16"), prefix("2001:db8::/32")), put(3, prefix("10.1.2.0/24"), prefix("::/128"))))
	for s1, n := range map[string]int{"1.2.3.4": 1, "10.0.0.0": 1, "10.1.0.0": 2, "10.1.2.0": 3, "10.1.2.3": 1, "10.1.2.4": 3, "255.255.255.255": 1, "2001:db8::1": 2, "::": 3, "0.0.0.0": 1} {
		if k, there := s.Owner(addr(s1)); !there || k != key(n) {
			t.Errorf("%s: %v %v", s1, k, there)
		}
		owns(t, s, m, addr(s1))
	}
	for _, a := range []api.Addr{addr("::1"), addr("2001:db9::"), {B: [16]byte{10, 4: 1}}, {B: [16]byte{15: 1}}} {
		if k, there := s.Owner(a); there || k != (api.Key{}) {
			t.Errorf("%v: %v %v", a, k, there)
		}
	}
	m = commit(t, s, m, nil, writes(gone(3)))
	owns(t, s, m, addr("10.1.2.4"))
	m = commit(t, s, m, nil, writes(put(1, prefix("10.1.2.3/32"))))
	owns(t, s, m, addr("10.1.2.3"))
	owns(t, s, m, addr("1.2.3.4"))
	m = commit(t, s, m, nil, writes(put(4, prefix("10.1.2.3/32"))))
	owns(t, s, m, addr("10.1.2.3"))
	if k, there := s.Owner(addr("10.1.2.3")); !there || k != key(4) {
		t.Errorf("a route that another one has now: %v %v", k, there)
	}
}

// P24.2: each commit's version is one more, also of one that writes nothing.
func TestVersions(t *testing.T) {
	s := vstore.New()
	commits(t, s, nil, nil, 1)
	commits(t, s, []vstore.Read{}, []vstore.Write{}, 2)
	commits(t, s, []vstore.Read{read(1, 0), read(2, 0), read(1, 0)}, nil, 3)
	commits(t, s, nil, writes(put(1)), 4, event(vstore.Added, 1, 4))
	commits(t, s, []vstore.Read{read(1, 4), read(2, 0)}, writes(put(2)), 5, event(vstore.Added, 2, 5))
	commits(t, s, []vstore.Read{read(1, 4), read(2, 5)}, writes(put(1)), 6, event(vstore.Changed, 1, 6))
	commits(t, s, []vstore.Read{read(1, 6), read(2, 5)}, nil, 7)
	commits(t, s, []vstore.Read{read(2, 5)}, writes(gone(2)), 8, event(vstore.Removed, 2, 8))
	commits(t, s, []vstore.Read{read(1, 6), read(2, 0)}, writes(put(2)), 9, event(vstore.Added, 2, 9))
	for _, r := range []vstore.Read{read(1, 0), read(1, 4), read(1, 5), read(1, 7), read(1, 9), read(2, 0), read(2, 5), read(2, 8), read(2, 10), read(3, 1), read(3, 9), read(1, math.MaxUint64), read(3, math.MaxUint64)} {
		refuses(t, s, []vstore.Read{r}, nil, api.ErrVersion)
		refuses(t, s, []vstore.Read{read(1, 6), r}, writes(put(7)), api.ErrVersion)
		refuses(t, s, []vstore.Read{r, read(1, 6)}, writes(put(7)), api.ErrVersion)
	}
}

// P24.2: a route that another peer has is that one's no more; who lost some is told, by rising keys, ahead of who took them.
func TestLost(t *testing.T) {
	s := vstore.New()
	commits(t, s, nil, writes(put(5, routes(0, 3)...), put(3, routes(3, 6)...), put(9, routes(6, 9)...), put(7)), 1,
		event(vstore.Added, 5, 1), event(vstore.Added, 3, 1), event(vstore.Added, 9, 1), event(vstore.Added, 7, 1))
	commits(t, s, nil, writes(put(6, route(1), route(4), route(7), route(20))), 2,
		event(vstore.Changed, 3, 2), event(vstore.Changed, 5, 2), event(vstore.Changed, 9, 2), event(vstore.Added, 6, 2))
	for n, want := range map[int][]api.Prefix{5: {route(0), route(2)}, 3: {route(3), route(5)}, 9: {route(6), route(8)}, 6: {route(1), route(4), route(7), route(20)}} {
		if p, v, _ := s.Get(key(n)); !record.Same(p, peer(n, want...)) || v != 2 {
			t.Errorf("%d: %v %d", n, p, v)
		}
	}
	if _, v, _ := s.Get(key(7)); v != 1 {
		t.Errorf("one that lost nothing has the version %d", v)
	}
	// What it has itself it does not lose; what it has no more is nobody's.
	commits(t, s, nil, writes(put(6, route(4), route(21))), 3, event(vstore.Changed, 6, 3))
	for n, want := range map[int]bool{1: false, 4: true, 7: false, 20: false, 21: true, 0: true} {
		if _, there := s.Owner(route(n).Addr); there != want {
			t.Errorf("route %d: %v", n, there)
		}
	}
	// A prefix of other Bits is another one.
	commits(t, s, nil, writes(put(7, prefix("10.0.0.0/16"), prefix("10.0.2.0/25"))), 4, event(vstore.Changed, 7, 4))
	// All of them.
	commits(t, s, nil, writes(put(1, route(0), route(2), route(3))), 5, event(vstore.Changed, 3, 5), event(vstore.Changed, 5, 5), event(vstore.Added, 1, 5))
	if p, v, there := s.Get(key(5)); !record.Same(p, peer(5)) || v != 5 || !there {
		t.Errorf("one that lost all: %v %d %v", p, v, there)
	}
}

// P24.2: writes are done one behind the other: what one put, another one may take.
func TestWritesInOrder(t *testing.T) {
	s := vstore.New()
	commits(t, s, nil, writes(put(2, route(1), route(2)), put(1, route(2), route(3)), put(3, route(1), route(3))), 1,
		event(vstore.Added, 2, 1), event(vstore.Changed, 2, 1), event(vstore.Added, 1, 1), event(vstore.Changed, 1, 1), event(vstore.Changed, 2, 1), event(vstore.Added, 3, 1))
	agree(t, s, model{version: 1, slots: [17]filled{1: {true, peer(2), 1}, 2: {true, peer(1, route(2)), 1}, 3: {true, peer(3, route(1), route(3)), 1}}})
	commits(t, s, nil, writes(put(4, route(1)), gone(3), put(2, route(1), route(3)), gone(1)), 2,
		event(vstore.Changed, 3, 2), event(vstore.Added, 4, 2), event(vstore.Removed, 3, 2), event(vstore.Changed, 4, 2), event(vstore.Changed, 2, 2), event(vstore.Removed, 1, 2))
	agree(t, s, model{version: 2, slots: [17]filled{1: {true, peer(2, route(1), route(3)), 2}, 4: {true, peer(4), 2}}})
	commits(t, s, nil, writes(gone(2), put(9, route(1))), 3, event(vstore.Removed, 2, 3), event(vstore.Added, 9, 3))
	agree(t, s, model{version: 3, slots: [17]filled{1: {true, peer(9, route(1)), 3}, 4: {true, peer(4), 2}}})
}

// P24.2: more than 2 MaxBatch reads, or writes.
func TestLong(t *testing.T) {
	var all []vstore.Write
	var none []vstore.Read
	for n := range mostOfOne {
		all, none = append(all, put(n)), append(none, read(n, 0))
	}
	s := vstore.New()
	refuses(t, s, none, append(slices.Clone(all), put(99)), api.ErrLong)
	refuses(t, s, append(slices.Clone(none), read(99, 0)), all, api.ErrLong)
	refuses(t, s, append(slices.Clone(none), read(99, 0)), nil, api.ErrLong)
	refuses(t, s, make([]vstore.Read, 1000), nil, api.ErrLong)
	refuses(t, s, nil, make([]vstore.Write, 1000), api.ErrLong)
	commit(t, s, model{}, none, all)
	// It is told ahead of all else.
	refuses(t, s, none, append(slices.Clone(all), put(0)), api.ErrLong)
	refuses(t, s, append(slices.Clone(none), read(99, 9)), writes(gone(99), gone(99)), api.ErrLong)
	refuses(t, s, none, writes(put(99)), api.ErrVersion)
}

// wrongWrites are writes that may not be.
func wrongWrites() []vstore.Write {
	var out []vstore.Write
	for _, change := range []func(p *record.Peer){
		func(p *record.Peer) { p.Keep = -1 }, func(p *record.Peer) { p.Keep = 65536 }, func(p *record.Peer) { p.HasEnd = false }, func(p *record.Peer) { p.End.Port = 0 },
		func(p *record.Peer) { p.Routes = []api.Prefix{{Bits: 33}} }, func(p *record.Peer) { p.Routes = []api.Prefix{route(1), route(1)} },
		func(p *record.Peer) { p.Routes = []api.Prefix{route(2), route(1)} }, func(p *record.Peer) { p.Routes = routes(0, 65) }, func(p *record.Peer) { p.Routes = make([]api.Prefix, 1000) },
	} {
		w := put(1)
		change(&w.Peer)
		out = append(out, w)
	}
	for _, p := range []record.Peer{{Shared: key(1)}, {HasEnd: true}, {HasEnd: true, End: api.End{Port: 1}}, {End: api.End{Port: 1}}, {End: api.End{Addr: api.Addr{Six: true}}}, {Keep: 1}, {Keep: -1},
		{Routes: []api.Prefix{route(1)}}, {Routes: []api.Prefix{{}}}, {Routes: make([]api.Prefix, 1000)}} {
		p.Public = key(1)
		out = append(out, vstore.Write{Peer: p, Gone: true})
	}
	return out
}

// P24.2: writes that may not be, and two of one key, wherever they stand.
func TestForm(t *testing.T) {
	s := vstore.New()
	m := commit(t, s, model{}, nil, writes(put(1, route(1)), put(2)))
	for _, w := range wrongWrites() {
		refuses(t, s, nil, writes(w), api.ErrForm)
		refuses(t, s, nil, writes(w, put(3)), api.ErrForm)
		refuses(t, s, nil, writes(put(3), w), api.ErrForm)
		refuses(t, s, nil, writes(put(3), w, put(4)), api.ErrForm)
		// It is told ahead of what stands behind it.
		refuses(t, s, []vstore.Read{read(1, 7)}, writes(gone(9), w), api.ErrForm)
	}
	for _, l := range [][]vstore.Write{writes(put(3), put(3)), writes(gone(1), gone(1)), writes(gone(1), put(1)), writes(put(1), gone(1)), writes(put(3), put(4), put(3)), writes(put(4), put(3), put(3)), writes(put(9), gone(9)), writes(gone(9), put(9))} {
		refuses(t, s, nil, l, api.ErrForm)
		refuses(t, s, []vstore.Read{read(1, 7)}, l, api.ErrForm)
	}
	// One that is gone may have an empty list.
	w := gone(1)
	w.Peer.Routes = []api.Prefix{}
	commit(t, s, m, nil, writes(w))
}

// P24.2: which of the errors behind the form is told first: wrong reads, then whom there is not, then what is too much.
func TestErrorsInOrder(t *testing.T) {
	s := vstore.New()
	var all []vstore.Write
	for n := range api.MaxPeers {
		all = append(all, put(n))
	}
	m := commit(t, s, model{}, nil, all)
	m = commit(t, s, m, nil, writes(put(0, routes(0, 64)...)))
	wrong := []vstore.Read{read(0, 1)}
	for _, full := range []vstore.Write{put(99), put(1, route(70))} {
		refuses(t, s, wrong, writes(gone(99)), api.ErrVersion)
		refuses(t, s, wrong, writes(full), api.ErrVersion)
		refuses(t, s, wrong, writes(full, gone(98)), api.ErrVersion)
		refuses(t, s, nil, writes(full, gone(98)), api.ErrNone)
		refuses(t, s, nil, writes(gone(98), full), api.ErrNone)
		refuses(t, s, nil, writes(gone(2), full, gone(98)), api.ErrNone)
		refuses(t, s, nil, writes(full), api.ErrFull)
		refuses(t, s, nil, writes(full, gone(0)), api.ErrFull)
	}
	// One that another write of the same commit puts is of one key with it; one that was taken away is there no more.
	m = commit(t, s, m, nil, writes(gone(0)))
	refuses(t, s, nil, writes(gone(0)), api.ErrNone)
	commit(t, s, m, nil, writes(put(99), put(1, route(70))))
}

// P24.2: at MaxPeers, and one more: at some write there would be too many, though a later one takes one away.
func TestFullOfPeers(t *testing.T) {
	s := vstore.New()
	m := model{}
	for n := range api.MaxPeers {
		m = commit(t, s, m, nil, writes(put(n, route(n))))
	}
	refuses(t, s, nil, writes(put(50)), api.ErrFull)
	refuses(t, s, nil, writes(put(3), put(50)), api.ErrFull)
	refuses(t, s, nil, writes(put(50), gone(3)), api.ErrFull)
	refuses(t, s, nil, writes(gone(3), put(50), put(51)), api.ErrFull)
	m = commit(t, s, m, nil, writes(put(15), put(0), put(7, route(3))))
	m = commit(t, s, m, nil, writes(gone(3), put(50)))
	if s.Slot(key(50)) != 4 {
		t.Errorf("slot %d", s.Slot(key(50)))
	}
	refuses(t, s, nil, writes(put(3)), api.ErrFull)
	commit(t, s, m, nil, writes(gone(50), put(3), gone(0), put(51)))
}

// P24.2: at MaxRoutes, and one more, of one peer and of all together.
func TestFullOfRoutes(t *testing.T) {
	s := vstore.New()
	m := commit(t, s, model{}, nil, writes(put(1, routes(0, 64)...)))
	refuses(t, s, nil, writes(put(2, route(64))), api.ErrFull)
	refuses(t, s, nil, writes(put(2, append([]api.Prefix{prefix("0.0.0.0/0")}, routes(0, 10)...)...)), api.ErrFull)
	refuses(t, s, nil, writes(put(2, route(64)), put(1)), api.ErrFull)
	refuses(t, s, nil, writes(put(2, route(64)), gone(1)), api.ErrFull)
	refuses(t, s, nil, writes(put(2, prefix("::/0")), put(1)), api.ErrFull)
	// What it takes from another one, or has no more itself, makes room.
	m = commit(t, s, m, nil, writes(put(2, routes(0, 64)...)))
	m = commit(t, s, m, nil, writes(put(1, routes(10, 20)...)))
	m = commit(t, s, m, nil, writes(put(2, routes(30, 84)...)))
	refuses(t, s, nil, writes(put(3, route(99))), api.ErrFull)
	m = commit(t, s, m, nil, writes(put(2, routes(30, 83)...), put(3, route(99))))
	refuses(t, s, nil, writes(put(1, routes(9, 20)...)), api.ErrFull)
	refuses(t, s, nil, writes(put(1, append(routes(9, 20), route(98))...), put(2)), api.ErrFull)
	m = commit(t, s, m, nil, writes(put(1, routes(11, 21)...)))
	m = commit(t, s, m, nil, writes(put(1, append(routes(11, 20), route(30))...), put(4, route(7))))
	m = commit(t, s, m, nil, writes(gone(2), put(5, routes(100, 153)...)))
	refuses(t, s, nil, writes(put(6, route(200))), api.ErrFull)
	m = commit(t, s, m, nil, writes(put(6, route(99))))
	commit(t, s, m, nil, writes(gone(5), put(6, routes(99, 152)...)))
}

// P24.7: a peer that is put has the smallest free slot, and keeps it as long as it is there.
func TestSlots(t *testing.T) {
	s := vstore.New()
	m := model{}
	for n := range api.MaxPeers {
		m = commit(t, s, m, nil, writes(put(100-n)))
		if s.Slot(key(100-n)) != n+1 {
			t.Fatalf("%d: slot %d", n, s.Slot(key(100-n)))
		}
	}
	m = commit(t, s, m, nil, writes(gone(95), gone(90), gone(100), gone(85)))
	m = commit(t, s, m, nil, writes(put(1), put(92), put(2), put(3)))
	for n, want := range map[int]int{1: 1, 2: 6, 3: 11, 92: 9, 95: 0, 90: 0, 100: 0, 85: 0} {
		if got := s.Slot(key(n)); got != want {
			t.Errorf("%d: slot %d, want %d", n, got, want)
		}
	}
	m = commit(t, s, m, nil, writes(gone(1), put(4), gone(2), put(5)))
	for n, want := range map[int]int{4: 1, 5: 6} {
		if got := s.Slot(key(n)); got != want {
			t.Errorf("%d: slot %d, want %d", n, got, want)
		}
	}
	m = commit(t, s, m, nil, writes(put(6), gone(5), put(7)))
	for n, want := range map[int]int{6: 16, 7: 6} {
		if got := s.Slot(key(n)); got != want {
			t.Errorf("%d: slot %d, want %d", n, got, want)
		}
	}
	commit(t, s, m, nil, writes(gone(7), put(8)))
}

// P24.3: pins are counted from 1 on; at most MaxPins are kept, of more the oldest one goes.
func TestPins(t *testing.T) {
	s := vstore.New()
	for n := uint64(1); n <= 20; n++ {
		pins(t, s, n)
		for k := uint64(0); k <= n+1; k++ {
			if k >= 1 && k <= n && k+api.MaxPins > n {
				page(t, s, k, api.Key{}, false, 1)
			} else {
				noPage(t, s, k)
			}
		}
	}
	for n, want := range map[uint64]bool{0: false, 1: false, 16: false, 21: false, math.MaxUint64: false} {
		unpins(t, s, n, want)
	}
	unpins(t, s, 18, true)
	unpins(t, s, 18, false)
	noPage(t, s, 18)
	// There is room for one more: the oldest one stays, until there is none.
	pins(t, s, 21)
	page(t, s, 17, api.Key{}, false, 1)
	pins(t, s, 22)
	noPage(t, s, 17)
	for _, n := range []uint64{19, 20, 21, 22} {
		page(t, s, n, api.Key{}, false, 1)
		unpins(t, s, n, true)
		noPage(t, s, n)
	}
	// A number is not given again.
	pins(t, s, 23)
	unpins(t, s, 23, true)
	pins(t, s, 24)
	page(t, s, 24, api.Key{}, false, 1)
}

// P24.3: a pin is kept through commits, of whichever end they come to.
func TestPinsThroughCommits(t *testing.T) {
	s := vstore.New()
	pins(t, s, 1)
	commits(t, s, nil, writes(put(2, route(1), route(2)), put(1)), 1, event(vstore.Added, 2, 1), event(vstore.Added, 1, 1))
	pins(t, s, 2)
	commits(t, s, nil, writes(put(3, route(1))), 2, event(vstore.Changed, 2, 2), event(vstore.Added, 3, 2))
	pins(t, s, 3)
	refuses(t, s, nil, writes(put(4), gone(9)), api.ErrNone)
	commits(t, s, nil, writes(gone(2), gone(1)), 3, event(vstore.Removed, 2, 3), event(vstore.Removed, 1, 3))
	pins(t, s, 4)
	changed := peer(3, route(9))
	changed.Keep = 77
	commits(t, s, nil, writes(vstore.Write{Peer: changed}), 4, event(vstore.Changed, 3, 4))
	page(t, s, 1, api.Key{}, false, 9)
	page(t, s, 2, api.Key{}, false, 9, peer(1), peer(2, route(1), route(2)))
	page(t, s, 3, api.Key{}, false, 9, peer(1), peer(2, route(2)), peer(3, route(1)))
	page(t, s, 4, api.Key{}, false, 9, peer(3, route(1)))
	pins(t, s, 5)
	page(t, s, 5, api.Key{}, false, 9, changed)
	noPage(t, s, 1)
	if k, there := s.Owner(route(1).Addr); there || k != (api.Key{}) {
		t.Errorf("a pin's route is told: %v", k)
	}
}

// P24.3: Page.
func TestPage(t *testing.T) {
	s := vstore.New()
	var all []record.Peer
	for n := range 10 {
		all = append(all, peer(2*n, route(n)))
	}
	for _, n := range []int{7, 3, 9, 0, 1, 8, 2, 6, 4, 5} {
		s.Commit(nil, writes(vstore.Write{Peer: all[n]}))
	}
	pins(t, s, 1)
	for n := -2; n < 14; n++ {
		some := min(max(n, 0), 10)
		page(t, s, 1, api.Key{}, false, n, all[:some]...)
		// What is after is of no matter then.
		page(t, s, 1, key(7), false, n, all[:some]...)
		page(t, s, 1, key(99), false, n, all[:some]...)
		for after := range 25 {
			rest := all[min(after/2+1, 10):]
			page(t, s, 1, key(after), true, n, rest[:min(some, len(rest))]...)
		}
	}
	for _, n := range []int{math.MinInt, math.MinInt + 1} {
		page(t, s, 1, api.Key{}, false, n)
	}
	page(t, s, 1, api.Key{}, false, math.MaxInt, all...)
	page(t, s, 1, api.Key{}, true, math.MaxInt, all[1:]...)
	page(t, s, 1, api.Key{0: 255}, true, math.MaxInt)
}

// P24.3: keys that are greater, as bytes, are those behind.
func TestPageAfter(t *testing.T) {
	all := []api.Key{{}, {31: 1}, {31: 128}, {31: 255}, {30: 1}, {0: 1}, {0: 127}, {0: 128}, {0: 128, 31: 1}, {0: 255}}
	s := vstore.New()
	var want []record.Peer
	for _, k := range all {
		want = append(want, record.Peer{Public: k})
		s.Commit(nil, writes(vstore.Write{Peer: record.Peer{Public: k}}))
	}
	pins(t, s, 1)
	for i, k := range all {
		page(t, s, 1, k, true, 99, want[i+1:]...)
		page(t, s, 1, k, true, 2, want[i+1:min(i+3, len(want))]...)
	}
	page(t, s, 1, api.Key{31: 2}, true, 99, want[2:]...)
	page(t, s, 1, api.Key{31: 127}, true, 99, want[2:]...)
	page(t, s, 1, api.Key{0: 64}, true, 99, want[6:]...)
	page(t, s, 1, api.Key{0: 255, 31: 1}, true, 99)
}

// Rule 5: what is handed in is not kept, and what is handed out is new memory.
func TestMemory(t *testing.T) {
	s := vstore.New()
	spoil := func(p record.Peer) {
		for i := range p.Routes {
			p.Routes[i] = api.Prefix{Bits: -9}
		}
	}
	w := writes(put(1, slices.Grow(routes(0, 4), 9)...), put(2, routes(4, 8)...))
	reads := []vstore.Read{read(1, 0)}
	m := commit(t, s, model{}, reads, w)
	for i := range w {
		spoil(w[i].Peer)
		w[i] = vstore.Write{}
	}
	agree(t, s, m)
	pins(t, s, 1)
	m = commit(t, s, m, nil, writes(put(3, route(1), route(5))))
	for range 3 {
		for n := range 4 {
			p, _, _ := s.Get(key(n))
			spoil(p)
		}
		l, _ := s.Page(1, api.Key{}, false, 9)
		for i := range l {
			spoil(l[i])
			l[i] = record.Peer{}
		}
		for i := range s.Keys() {
			s.Keys()[i] = api.Key{}
		}
		k := s.Keys()
		clear(k)
		agree(t, s, m)
		page(t, s, 1, api.Key{}, false, 9, peer(1, routes(0, 4)...), peer(2, routes(4, 8)...))
		owns(t, s, m, route(1).Addr)
	}
	_, events, _ := s.Commit(nil, writes(gone(3)))
	clear(events)
	if _, l, e := s.Commit(nil, writes(put(3), put(4, route(0)))); e != api.OK || !slices.Equal(l, []vstore.Event{event(1, 3, 4), event(2, 1, 4), event(1, 4, 4)}) {
		t.Errorf("events: %v %v", l, e)
	}
}

// Rule 5: what is handed in is not changed, whatever a commit comes to.
func TestHandedIn(t *testing.T) {
	s := vstore.New()
	s.Commit(nil, writes(put(1, routes(0, 60)...)))
	for _, l := range [][]vstore.Write{writes(put(2, routes(30, 40)...), put(3, routes(35, 45)...)), writes(put(4, routes(100, 140)...)), writes(gone(1), put(2))} {
		own := slices.Clone(l)
		for i := range own {
			own[i].Peer = copied(l[i].Peer)
		}
		reads := []vstore.Read{read(9, 0), read(8, 0)}
		s.Commit(reads, l)
		for i := range l {
			if !record.Same(l[i].Peer, own[i].Peer) || l[i].Gone != own[i].Gone {
				t.Errorf("%v is changed to %v", own[i], l[i])
			}
		}
		if !slices.Equal(reads, []vstore.Read{read(9, 0), read(8, 0)}) {
			t.Errorf("reads: %v", reads)
		}
	}
}

// few is how many keys a random commit is about: more than MaxPeers.
const few = 20

// randomRoutes are routes that rise strictly, of few.
func randomRoutes(r *rand.Rand, most int) []api.Prefix {
	var out []api.Prefix
	for n := range 100 {
		if len(out) < api.MaxRoutes && r.IntN(100) < most {
			out = append(out, route(n))
		}
	}
	for _, s := range []string{"10.0.0.0/25", "::/0", "2001:db8::/32"} {
		if p := prefix(s); len(out) < api.MaxRoutes && r.IntN(4) == 0 && (len(out) == 0 || cidr.Before(out[len(out)-1], p)) {
			out = append(out, p)
		}
	}
	return out
}

// randomReads are reads, which are right but for a few.
func randomReads(r *rand.Rand, m model) []vstore.Read {
	var out []vstore.Read
	for range r.IntN(6) {
		n := r.IntN(few)
		x := read(n, m.slots[m.slot(key(n))].version)
		if r.IntN(40) == 0 {
			x.Version += uint64(r.IntN(3)) - 1
		}
		out = append(out, x)
	}
	return out
}

// randomWrites are writes, which may be but for a few.
func randomWrites(r *rand.Rand, m model) []vstore.Write {
	var out []vstore.Write
	for _, n := range r.Perm(few)[:r.IntN(5)] {
		there := m.slot(key(n)) != 0
		switch {
		case there && r.IntN(3) == 0, r.IntN(60) == 0:
			out = append(out, gone(n))
		default:
			w := put(n, randomRoutes(r, r.IntN(12))...)
			w.Peer.Keep = r.IntN(65540) - 1
			out = append(out, w)
		}
	}
	if len(out) > 0 && r.IntN(50) == 0 {
		out = append(out, out[0])
	}
	return out
}

// P24.4, P24.5, P24.7: stores have what a model has, whatever is committed; no prefix is two peers' route.
func TestModel(t *testing.T) {
	r := rand.New(rand.NewPCG(24, 4))
	faults := map[api.Errno]int{}
	for range 40 {
		s := vstore.New()
		m := model{}
		for range 150 {
			reads, writes := randomReads(r, m), randomWrites(r, m)
			_, _, e := m.commit(reads, writes)
			faults[e]++
			before := m
			m = commit(t, s, m, reads, writes)
			for range 10 {
				owns(t, s, m, api.Addr{B: [16]byte{10, 0, byte(r.IntN(101)), byte(r.IntN(256))}})
			}
			owns(t, s, m, api.Addr{Six: true, B: [16]byte{32, 1, 13, byte(183 + r.IntN(2))}})
			holdsRules(t, s, before)
		}
	}
	for _, e := range []api.Errno{api.OK, api.ErrForm, api.ErrVersion, api.ErrNone, api.ErrFull} {
		if faults[e] < 20 {
			t.Errorf("too few commits came to %v: %d", e, faults[e])
		}
	}
}

// holdsRules holds that a prefix is one peer's, that the limits are kept, and that who was there and is there keeps the slot.
func holdsRules(t *testing.T, s *vstore.Store, before model) {
	t.Helper()
	owners := map[api.Prefix]int{}
	slots := map[int]int{}
	for _, k := range s.Keys() {
		p, _, _ := s.Get(k)
		for _, r := range p.Routes {
			owners[r]++
			if owners[r] > 1 {
				t.Fatalf("%v is two peers'", r)
			}
		}
		slots[s.Slot(k)]++
		if i := before.slot(k); slots[s.Slot(k)] > 1 || i != 0 && s.Slot(k) != i {
			t.Fatalf("%v: slot %d, was %d", k, s.Slot(k), i)
		}
		// A read of what is there is right.
		if _, v, _ := s.Get(k); v == 0 || v > s.Version() {
			t.Fatalf("%v: version %d of %d", k, v, s.Version())
		}
	}
	if len(owners) > api.MaxRoutes || len(s.Keys()) > api.MaxPeers {
		t.Fatalf("%d routes of %d peers", len(owners), len(s.Keys()))
	}
}

// kept is a pin that is kept, with what was there when it was made.
type kept struct {
	number uint64
	peers  []record.Peer
}

// randomPin makes a pin, or takes one away, of those that are kept, the oldest one first.
func randomPin(t *testing.T, r *rand.Rand, s *vstore.Store, m model, l []kept, last *uint64) []kept {
	t.Helper()
	switch r.IntN(4) {
	case 0:
		*last++
		pins(t, s, *last)
		var all []record.Peer
		for _, k := range m.keys() {
			all = append(all, m.slots[m.slot(k)].peer)
		}
		l = append(l, kept{*last, all})
		return l[max(len(l)-api.MaxPins, 0):]
	case 1:
		n := *last - min(*last, uint64(r.IntN(7)))
		for i, x := range l {
			if x.number == n {
				unpins(t, s, n, true)
				return slices.Delete(slices.Clone(l), i, i+1)
			}
		}
		unpins(t, s, n, false)
	}
	return l
}

// pages holds what a pin tells, page by page of whatever sizes.
func pages(t *testing.T, r *rand.Rand, s *vstore.Store, x kept) {
	t.Helper()
	var after api.Key
	for from := 0; from <= len(x.peers); {
		n := 1 + r.IntN(5)
		to := min(from+n, len(x.peers))
		page(t, s, x.number, after, from > 0, n, x.peers[from:to]...)
		if to == len(x.peers) {
			return
		}
		from, after = to, x.peers[to-1].Public
	}
}

// P24.6: a pin that is kept tells what was there when it was made, each peer once, in order, by pages of whatever sizes.
func TestPinsAsTheyWere(t *testing.T) {
	r := rand.New(rand.NewPCG(24, 6))
	for range 30 {
		s := vstore.New()
		m := model{}
		var l []kept
		last := uint64(0)
		for range 100 {
			m = commit(t, s, m, nil, randomWrites(r, m))
			l = randomPin(t, r, s, m, l, &last)
			for _, x := range l {
				pages(t, r, s, x)
			}
			for n := uint64(0); n <= last+1; n++ {
				if !slices.ContainsFunc(l, func(x kept) bool { return x.number == n }) {
					noPage(t, s, n)
				}
			}
		}
	}
}

// P7: of two that read the same, and write of it, the second one is refused, and leaves nothing.
func TestOneWins(t *testing.T) {
	s := vstore.New()
	m := commit(t, s, model{}, nil, writes(put(1, route(1)), put(2, route(2))))
	reads := []vstore.Read{read(1, 1), read(2, 1), read(3, 0)}
	m = commit(t, s, m, reads, writes(put(3, route(2))))
	refuses(t, s, reads, writes(put(1), put(4, route(1))), api.ErrVersion)
	refuses(t, s, reads[:2], writes(put(1)), api.ErrVersion)
	m = commit(t, s, m, reads[:1], writes(put(1, route(1), route(5))))
	owns(t, s, m, route(2).Addr)
	owns(t, s, m, route(5).Addr)
}
