package trie_test

import (
	"bytes"
	"math"
	"math/rand/v2"
	"net/netip"
	"slices"
	"strconv"
	"testing"

	"adit/api"
	"adit/cidr"
	"adit/trie"
)

// prefix is a text's prefix.
func prefix(t *testing.T, s string) api.Prefix {
	t.Helper()
	p, e := cidr.ParsePrefix(s)
	if e != api.OK {
		t.Fatalf("%q: %v", s, e)
	}
	return p
}

// addr is a text's address.
func addr(t *testing.T, s string) api.Addr {
	t.Helper()
	a, e := cidr.Parse(s)
	if e != api.OK {
		t.Fatalf("%q: %v", s, e)
	}
	return a
}

// put is a trie with a route that it may have.
func put(t *testing.T, a *trie.Trie, p api.Prefix, owner int) *trie.Trie {
	t.Helper()
	b, e := a.Put(p, owner)
	if e != api.OK || b == nil {
		t.Fatalf("Put(%v, %d): %v %v", p, owner, b, e)
	}
	return b
}

// drop is a trie without a route that it has.
func drop(t *testing.T, a *trie.Trie, p api.Prefix) *trie.Trie {
	t.Helper()
	b, e := a.Drop(p)
	if e != api.OK || b == nil {
		t.Fatalf("Drop(%v): %v %v", p, b, e)
	}
	return b
}

// of is a trie of prefixes, whose owners are 1, 2 and so on.
func of(t *testing.T, all ...string) *trie.Trie {
	t.Helper()
	var out *trie.Trie
	for i, s := range all {
		out = put(t, out, prefix(t, s), i+1)
	}
	return out
}

// digit is an address' digit, told by division.
func digit(a api.Addr, n int) int {
	v := int(a.B[n/8])
	for range 7 - n%8 {
		v /= 2
	}
	return v % 2
}

// holds tells whether an address lies in a prefix, digit by digit.
func holds(p api.Prefix, a api.Addr) bool {
	if p.Addr.Six != a.Six {
		return false
	}
	for n := range p.Bits {
		if digit(p.Addr, n) != digit(a, n) {
			return false
		}
	}
	return true
}

// cut is the prefix of so many digits of an address.
func cut(a api.Addr, bits int) api.Prefix {
	for n := bits; n < 128; n++ {
		a.B[n/8] &^= 128 >> (n % 8)
	}
	return api.Prefix{Addr: a, Bits: bits}
}

// model is what a trie has, by prefixes.
type model map[api.Prefix]int

// with is a model with a route.
func (m model) with(p api.Prefix, owner int) model {
	out := model{p: owner}
	for q, o := range m {
		if q != p {
			out[q] = o
		}
	}
	return out
}

// without is a model without the routes that are so.
func (m model) without(so func(api.Prefix, int) bool) model {
	out := model{}
	for q, o := range m {
		if !so(q, o) {
			out[q] = o
		}
	}
	return out
}

// sorted are a model's routes in their order, told by the bytes and the Bits of a key.
func (m model) sorted() []trie.Route {
	var out []trie.Route
	for p, o := range m {
		out = append(out, trie.Route{Prefix: p, Owner: o})
	}
	key := func(p api.Prefix) []byte {
		six := byte(0)
		if p.Addr.Six {
			six = 1
		}
		return append(append([]byte{six}, p.Addr.B[:]...), byte(p.Bits))
	}
	slices.SortFunc(out, func(a, b trie.Route) int { return bytes.Compare(key(a.Prefix), key(b.Prefix)) })
	return out
}

// find is the route of the longest prefix that holds an address.
func (m model) find(a api.Addr) (trie.Route, bool) {
	best, found := trie.Route{}, false
	for p, o := range m {
		if holds(p, a) && (!found || p.Bits > best.Prefix.Bits) {
			best, found = trie.Route{Prefix: p, Owner: o}, true
		}
	}
	return best, found
}

// same holds that a trie has what a model has.
func same(t *testing.T, a *trie.Trie, m model) {
	t.Helper()
	if got, want := a.Routes(), m.sorted(); !slices.Equal(got, want) {
		t.Fatalf("Routes: %v, want %v", got, want)
	}
	if got := a.Count(); got != len(m) {
		t.Fatalf("Count: %d, want %d", got, len(m))
	}
	for p, o := range m {
		if got, there := a.Get(p); got != o || !there {
			t.Fatalf("Get(%v): %d %v, want %d", p, got, there, o)
		}
	}
}

// finds holds whose addresses are.
func finds(t *testing.T, a *trie.Trie, m model, all []api.Addr) {
	t.Helper()
	for _, at := range all {
		want, there := m.find(at)
		if got, ok := a.Find(at); got != want || ok != there {
			t.Fatalf("Find(%v): %v %v, want %v %v", at, got, ok, want, there)
		}
	}
}

// wantOwner holds whose an address is.
func wantOwner(t *testing.T, a *trie.Trie, s string, want int) {
	t.Helper()
	r, there := a.Find(addr(t, s))
	if r.Owner != want || there != (want != 0) || !there && r != (trie.Route{}) {
		t.Errorf("Find(%s): %v %v, want %d", s, r, there, want)
	}
	if there && !holds(r.Prefix, addr(t, s)) {
		t.Errorf("Find(%s): %v does not hold it", s, r)
	}
}

// chance is an address of few digits that are not all alike, so that prefixes are nested often.
func chance(r *rand.Rand) api.Addr {
	a, size := api.Addr{}, 4
	if r.IntN(2) == 0 {
		a.Six, size = true, 16
	}
	for i := range size {
		a.B[i] = [...]byte{0, 0, 1, 128, 255, byte(r.Uint32())}[r.IntN(6)]
	}
	return a
}

// chancePrefix is a prefix of such an address.
func chancePrefix(r *rand.Rand) api.Prefix {
	a := chance(r)
	if a.Six {
		return cut(a, r.IntN(129))
	}
	return cut(a, r.IntN(33))
}

// about are addresses at the edges of prefixes: the first and the last one that lies within, and with each of some digits turned.
func about(m model) []api.Addr {
	out := []api.Addr{{}, {Six: true}}
	for p := range m {
		digits := 32
		if p.Addr.Six {
			digits = 128
		}
		last := p.Addr
		for n := p.Bits; n < digits; n++ {
			last.B[n/8] |= 128 >> (n % 8)
		}
		out = append(out, p.Addr, last)
		for _, n := range []int{0, p.Bits - 1, p.Bits, p.Bits + 1, digits - 1} {
			if n >= 0 && n < digits {
				first, other := p.Addr, last
				first.B[n/8] ^= 128 >> (n % 8)
				other.B[n/8] ^= 128 >> (n % 8)
				out = append(out, first, other)
			}
		}
	}
	return out
}

// wrongPrefixes are prefixes that may not be.
func wrongPrefixes() []api.Prefix {
	ten := api.Addr{B: [16]byte{10}}
	out := []api.Prefix{
		{Addr: ten, Bits: -1}, {Addr: ten, Bits: 0}, {Addr: ten, Bits: 1}, {Addr: ten, Bits: 4}, {Addr: ten, Bits: 6}, {Addr: ten, Bits: 33}, {Addr: ten, Bits: 128},
		{Addr: ten, Bits: math.MinInt}, {Addr: ten, Bits: math.MaxInt}, {Bits: 33}, {Bits: -1}, {Bits: 256}, {Bits: 1 << 32}, {Addr: api.Addr{Six: true}, Bits: 129}, {Addr: api.Addr{Six: true}, Bits: -1},
		{Addr: api.Addr{Six: true}, Bits: math.MinInt}, {Addr: api.Addr{Six: true}, Bits: math.MaxInt}, {Addr: api.Addr{Six: true, B: [16]byte{15: 1}}, Bits: 127}, {Addr: api.Addr{B: [16]byte{10, 0, 0, 1}}, Bits: 31},
	}
	for i := 4; i < 16; i++ {
		a := ten
		a.B[i] = 1
		for _, bits := range []int{0, 8, 32, 33, 128} {
			out = append(out, api.Prefix{Addr: a, Bits: bits})
		}
	}
	return out
}

// full is a trie of as many routes as there may be, of both kinds, and its model.
func full(t *testing.T) (*trie.Trie, model) {
	t.Helper()
	var a *trie.Trie
	m := model{}
	for i := range api.MaxRoutes {
		p := api.Prefix{Addr: api.Addr{B: [16]byte{10, byte(i)}}, Bits: 16}
		if i%2 == 0 {
			p = api.Prefix{Addr: api.Addr{Six: true, B: [16]byte{0x20, byte(i)}}, Bits: 16 + i}
		}
		a, m = put(t, a, p, i+1), m.with(p, i+1)
	}
	return a, m
}

// P14.1, P14.2: the chapter's example.
func TestExample(t *testing.T) {
	a := of(t, "10.0.0.0/8", "10.1.0.0/16")
	wantOwner(t, a, "10.1.2.3", 2)
	wantOwner(t, a, "10.2.0.0", 1)
	wantOwner(t, a, "11.0.0.0", 0)
	wantOwner(t, a, "::", 0)
	if r, _ := a.Find(addr(t, "10.1.2.3")); r != (trie.Route{Prefix: prefix(t, "10.1.0.0/16"), Owner: 2}) {
		t.Errorf("the route: %v", r)
	}
}

// P14.1, P14.2, P1: a trie that is nil, one that no call made, and those from which all has been taken have none.
func TestEmpty(t *testing.T) {
	p := prefix(t, "10.0.0.0/8")
	var none *trie.Trie
	for i, a := range []*trie.Trie{none, {}, new(trie.Trie), drop(t, of(t, "10.0.0.0/8"), p), of(t, "10.0.0.0/8").DropAll(1), none.DropAll(1), new(trie.Trie).DropAll(2)} {
		same(t, a, model{})
		for _, s := range []string{"0.0.0.0", "10.0.0.1", "255.255.255.255", "::", "::1"} {
			wantOwner(t, a, s, 0)
		}
		for _, q := range []api.Prefix{{}, {Addr: api.Addr{Six: true}}, p} {
			if o, there := a.Get(q); o != 0 || there {
				t.Errorf("%d: Get(%v): %d %v", i, q, o, there)
			}
			if b, e := a.Drop(q); b != nil || e != api.ErrNone {
				t.Errorf("%d: Drop(%v): %v %v", i, q, b, e)
			}
		}
		same(t, put(t, a, p, 7), model{p: 7})
		same(t, a.DropAll(0), model{})
		same(t, a, model{})
	}
}

// P14.1: what is wrong is told in order, and answers no trie; it is answered so by tries that are empty or full, too.
func TestWrongs(t *testing.T) {
	whole, m := full(t)
	p := prefix(t, "192.168.0.0/16")
	for _, a := range []*trie.Trie{nil, {}, of(t, "10.0.0.0/8", "0.0.0.0/0", "::/0"), whole} {
		before := a.Routes()
		for _, q := range wrongPrefixes() {
			for _, owner := range []int{1, 0, -1} {
				if b, e := a.Put(q, owner); b != nil || e != api.ErrMask {
					t.Errorf("Put(%v, %d): %v %v", q, owner, b, e)
				}
			}
			if b, e := a.Drop(q); b != nil || e != api.ErrMask {
				t.Errorf("Drop(%v): %v %v", q, b, e)
			}
			if o, there := a.Get(q); o != 0 || there {
				t.Errorf("Get(%v): %d %v", q, o, there)
			}
			if r, there := a.Find(q.Addr); !cidr.Right(q.Addr) && (r != (trie.Route{}) || there) {
				t.Errorf("Find(%v): %v %v", q.Addr, r, there)
			}
		}
		for _, owner := range []int{0, -1, math.MinInt} {
			if b, e := a.Put(p, owner); b != nil || e != api.ErrArg {
				t.Errorf("Put(%v, %d): %v %v", p, owner, b, e)
			}
		}
		if b, e := a.Drop(p); b != nil || e != api.ErrNone {
			t.Errorf("Drop(%v): %v %v", p, b, e)
		}
		if !slices.Equal(a.Routes(), before) {
			t.Errorf("errors have changed %v", before)
		}
	}
	same(t, whole, m)
}

// P14.1: as many routes as there may be, of both kinds in all, and one more.
func TestFull(t *testing.T) {
	a, m := full(t)
	same(t, a, m)
	for _, s := range []string{"10.0.0.0/16", "10.1.0.0/17", "10.0.0.0/8", "0.0.0.0/0", "::/0", "::1/128", "2000::/15", "1.2.3.4/32"} {
		if b, e := a.Put(prefix(t, s), 1); b != nil || e != api.ErrFull {
			t.Errorf("one more, %s: %v %v", s, b, e)
		}
	}
	// One that is there takes its place, and one may come where one has gone.
	for p, o := range m {
		b := put(t, a, p, o+1000)
		same(t, b, m.with(p, o+1000))
		c := drop(t, a, p)
		rest := m.without(func(q api.Prefix, _ int) bool { return q == p })
		same(t, c, rest)
		q := prefix(t, "172.16.0.0/12")
		d := put(t, c, q, 5)
		same(t, d, rest.with(q, 5))
		if e, err := d.Put(p, o); e != nil || err != api.ErrFull {
			t.Errorf("full again, %v: %v %v", p, e, err)
		}
	}
	same(t, a, m)
}

// P14.1: a route put twice has the last owner, and is one.
func TestPutTwice(t *testing.T) {
	for _, s := range []string{"0.0.0.0/0", "::/0", "10.0.0.0/8", "10.1.0.0/16", "1.2.3.4/32", "::/1", "8000::/1", "::1/128"} {
		p := prefix(t, s)
		a := of(t, "0.0.0.0/0", "10.0.0.0/8", "10.1.0.0/16", "::/0", "::/1", "::1/128")
		m := model{}
		for _, r := range a.Routes() {
			m[r.Prefix] = r.Owner
		}
		b := put(t, a, p, 50)
		same(t, b, m.with(p, 50))
		c := put(t, put(t, b, p, math.MaxInt), p, math.MaxInt)
		same(t, c, m.with(p, math.MaxInt))
		finds(t, c, m.with(p, math.MaxInt), about(m.with(p, 1)))
		same(t, a, m)
	}
}

// P14.2: the prefix of no digits holds all of its kind, and nothing of the other one.
func TestOfNoDigits(t *testing.T) {
	a := of(t, "0.0.0.0/0")
	for _, s := range []string{"0.0.0.0", "1.2.3.4", "128.0.0.0", "255.255.255.255"} {
		wantOwner(t, a, s, 1)
	}
	for _, s := range []string{"::", "::1", "102:304::", "ffff:ffff:ffff:ffff:ffff:ffff:ffff:ffff"} {
		wantOwner(t, a, s, 0)
	}
	if _, there := a.Get(prefix(t, "::/0")); there {
		t.Error("::/0 is there")
	}
	if b, e := a.Drop(prefix(t, "::/0")); b != nil || e != api.ErrNone {
		t.Errorf("Drop of ::/0: %v %v", b, e)
	}
	b := put(t, a, prefix(t, "::/0"), 2)
	for _, s := range []string{"::", "::1", "102:304::", "ffff:ffff:ffff:ffff:ffff:ffff:ffff:ffff"} {
		wantOwner(t, b, s, 2)
	}
	wantOwner(t, b, "1.2.3.4", 1)
	same(t, b, model{prefix(t, "0.0.0.0/0"): 1, prefix(t, "::/0"): 2})
	c := drop(t, b, prefix(t, "0.0.0.0/0"))
	wantOwner(t, c, "1.2.3.4", 0)
	wantOwner(t, c, "::", 2)
}

// P14.2: of IPv4 beside IPv6 those of the same bytes are unlike.
func TestOfBothKinds(t *testing.T) {
	a := of(t, "10.0.0.0/8", "a00::/8", "10.1.0.0/16", "a01::/16", "10.1.0.0/32", "a01::/32")
	wantOwner(t, a, "10.2.0.0", 1)
	wantOwner(t, a, "a02::", 2)
	wantOwner(t, a, "10.1.0.1", 3)
	wantOwner(t, a, "a01:1::", 4)
	wantOwner(t, a, "10.1.0.0", 5)
	wantOwner(t, a, "a01::", 6)
	b := drop(t, a, prefix(t, "a01::/16"))
	wantOwner(t, b, "10.1.0.1", 3)
	wantOwner(t, b, "a01:1::", 2)
	wantOwner(t, b, "a01::", 6)
	var order []int
	for _, r := range a.Routes() {
		order = append(order, r.Owner)
	}
	if !slices.Equal(order, []int{1, 3, 5, 2, 4, 6}) {
		t.Errorf("the order: %v", order)
	}
}

// P14.2: Get asks for the prefix itself, not for one that holds it or lies in it, nor for one at which two ways part.
func TestGet(t *testing.T) {
	a := of(t, "10.0.0.0/8", "10.1.0.0/16", "10.1.128.0/17", "10.1.0.0/17", "192.168.0.0/24", "192.168.1.0/24", "::8/128", "::9/128")
	for i, s := range []string{"10.0.0.0/8", "10.1.0.0/16", "10.1.128.0/17", "10.1.0.0/17", "192.168.0.0/24", "192.168.1.0/24", "::8/128", "::9/128"} {
		if o, there := a.Get(prefix(t, s)); o != i+1 || !there {
			t.Errorf("Get(%s): %d %v", s, o, there)
		}
	}
	for _, s := range []string{"0.0.0.0/0", "10.0.0.0/7", "10.0.0.0/9", "10.0.0.0/16", "10.0.0.0/15", "10.1.0.0/18", "10.1.0.0/32", "192.168.0.0/23", "192.168.0.0/16", "192.168.0.0/25", "::/0", "::8/127", "::8/126", "::/128", "a00::/8"} {
		p := prefix(t, s)
		if o, there := a.Get(p); o != 0 || there {
			t.Errorf("Get(%s): %d %v", s, o, there)
		}
		if b, e := a.Drop(p); b != nil || e != api.ErrNone {
			t.Errorf("Drop(%s): %v %v", s, b, e)
		}
	}
}

// P14.3, P4: prefixes that are nested, each in the one ahead: an address is of the longest one that holds it.
func TestNested(t *testing.T) {
	for _, whole := range []api.Addr{addr(t, "170.85.255.0"), addr(t, "0.0.0.0"), addr(t, "255.255.255.255"), addr(t, "aaaa:5555:ff00:ff::1"), addr(t, "::"), addr(t, "ffff:ffff:ffff:ffff:ffff:ffff:ffff:ffff")} {
		digits := 32
		if whole.Six {
			digits = 128
		}
		for _, step := range []int{1, 2, 3, 7} {
			up, down, m := (*trie.Trie)(nil), (*trie.Trie)(nil), model{}
			var all []api.Prefix
			for bits := 0; bits <= digits && len(all) < api.MaxRoutes; bits += step {
				all = append(all, cut(whole, bits))
			}
			for i, p := range all {
				back := len(all) - 1 - i
				up, down, m = put(t, up, p, i+1), put(t, down, all[back], back+1), m.with(p, i+1)
			}
			same(t, up, m)
			same(t, down, m)
			for n := range digits {
				a := whole
				a.B[n/8] ^= 128 >> (n % 8)
				last := all[min(n/step, len(all)-1)]
				for _, at := range []*trie.Trie{up, down} {
					if r, there := at.Find(a); !there || r.Prefix != last {
						t.Fatalf("Find(%v), turned at %d: %v %v, want %v", a, n, r, there, last)
					}
				}
			}
			if r, there := up.Find(whole); !there || r.Prefix != all[len(all)-1] {
				t.Errorf("Find(%v): %v %v", whole, r, there)
			}
			finds(t, up, m, about(m))
			// Without one of them its addresses are of the one around.
			for i, p := range all {
				rest := m.without(func(q api.Prefix, _ int) bool { return q == p })
				a := drop(t, up, p)
				same(t, a, rest)
				finds(t, a, rest, about(model{p: i + 1}))
			}
		}
	}
}

// P14.1: DropAll takes an owner's routes, and no other one's.
func TestDropAll(t *testing.T) {
	r := rand.New(rand.NewPCG(14, 1))
	for range 60 {
		var a *trie.Trie
		m := model{}
		for range r.IntN(api.MaxRoutes + 1) {
			p, owner := chancePrefix(r), 1+r.IntN(4)
			a, m = put(t, a, p, owner), m.with(p, owner)
		}
		for _, owner := range []int{0, 1, 2, 3, 4, 5, -1, math.MinInt, math.MaxInt} {
			b := a.DropAll(owner)
			rest := m.without(func(_ api.Prefix, o int) bool { return o == owner })
			if b == nil {
				t.Fatalf("DropAll(%d): no trie", owner)
			}
			same(t, b, rest)
			finds(t, b, rest, about(m))
			same(t, a, m)
		}
		same(t, a.DropAll(1).DropAll(2).DropAll(3).DropAll(4), model{})
	}
}

// P14.2, P14.3, P14.4, P4: whatever is put and dropped, a trie is as its model is, and all that were made stay as they were.
func TestAgainstModels(t *testing.T) {
	r := rand.New(rand.NewPCG(14, 3))
	for range 12 {
		var a *trie.Trie
		m := model{}
		tries, models := []*trie.Trie{a}, []model{m}
		for range 150 {
			p := chancePrefix(r)
			if all := a.Routes(); r.IntN(2) == 0 && len(all) > 0 {
				p = all[r.IntN(len(all))].Prefix
			}
			owner := 1 + r.IntN(9)
			_, there := m[p]
			switch n := r.IntN(20); {
			case n < 13 && (there || len(m) < api.MaxRoutes):
				a, m = put(t, a, p, owner), m.with(p, owner)
			case n < 19 && there:
				a, m = drop(t, a, p), m.without(func(q api.Prefix, _ int) bool { return q == p })
			case n == 19:
				a, m = a.DropAll(owner), m.without(func(_ api.Prefix, o int) bool { return o == owner })
			}
			same(t, a, m)
			finds(t, a, m, append(about(model{p: 1}), chance(r), chance(r)))
			tries, models = append(tries, a), append(models, m)
		}
		finds(t, a, m, about(m))
		for i, old := range tries {
			same(t, old, models[i])
			finds(t, old, models[i], []api.Addr{chance(r), chance(r)})
		}
	}
}

// P4: the longest prefix, told by another program's prefixes.
func TestAgainstAnother(t *testing.T) {
	r := rand.New(rand.NewPCG(14, 4))
	for range 100 {
		var a *trie.Trie
		var other []netip.Prefix
		for range 1 + r.IntN(api.MaxRoutes) {
			p := chancePrefix(r)
			s, _ := cidr.PrintPrefix(p)
			a, other = put(t, a, p, 1), append(other, netip.MustParsePrefix(s))
		}
		for range 100 {
			at := chance(r)
			s, _ := cidr.Print(at)
			want := ""
			best := -1
			for _, q := range other {
				if q.Contains(netip.MustParseAddr(s)) && q.Bits() > best {
					want, best = q.String(), q.Bits()
				}
			}
			got, there := a.Find(at)
			text, _ := cidr.PrintPrefix(got.Prefix)
			if there != (best >= 0) || there && netip.MustParsePrefix(text).String() != want {
				t.Fatalf("Find(%s): %v %v, want %q", s, text, there, want)
			}
		}
	}
}

// P14.4: a trie that is looked at after another one was made of it, in each way, is as it was.
func TestAsItWas(t *testing.T) {
	all := []string{"0.0.0.0/0", "10.0.0.0/8", "10.1.0.0/16", "10.1.2.0/24", "10.1.3.0/24", "192.168.0.0/16", "::/0", "2001:db8::/32", "2001:db8:1::/48"}
	a := of(t, all...)
	m := model{}
	for i, s := range all {
		m[prefix(t, s)] = i + 1
	}
	for i, s := range append(all, "10.0.0.0/9", "10.1.2.0/23", "10.1.2.3/32", "128.0.0.0/1", "2001:db8::/31", "::1/128", "8000::/1") {
		p := prefix(t, s)
		put(t, a, p, 99)
		a.Drop(p)
		a.DropAll(i + 1)
		put(t, put(t, a, p, 98), p, 97).DropAll(97)
		same(t, a, m)
		finds(t, a, m, about(m.with(p, 1)))
	}
	// What Routes hands out is a list of its own.
	rows := a.Routes()
	clear(rows)
	rows = append(rows, trie.Route{})
	same(t, a, m)
	if b, c := a.Routes(), a.Routes(); &b[0] == &c[0] || len(rows) != len(b)+1 {
		t.Error("Routes hands one list out twice")
	}
	// Put and Drop answer another trie, of a route that was there, too.
	if b := put(t, a, prefix(t, "10.0.0.0/8"), 2); b == a {
		t.Error("Put of what is there hands out the same trie")
	}
}

// P14.5: the order in which routes are put is of no matter.
func TestOrderOfPuts(t *testing.T) {
	all := []string{"0.0.0.0/0", "10.0.0.0/8", "10.128.0.0/9", "10.1.0.0/16", "10.1.2.3/32"}
	want := of(t, all...).Routes()
	var permute func(done []int)
	permute = func(done []int) {
		if len(done) < len(all) {
			for i := range all {
				if !slices.Contains(done, i) {
					permute(append(slices.Clone(done), i))
				}
			}
			return
		}
		var a *trie.Trie
		for _, i := range done {
			a = put(t, a, prefix(t, all[i]), i+1)
		}
		if !slices.Equal(a.Routes(), want) {
			t.Fatalf("%v: %v", done, a.Routes())
		}
		wantOwner(t, a, "10.1.2.3", 5)
		wantOwner(t, a, "10.1.2.4", 4)
		wantOwner(t, a, "10.200.0.0", 3)
		wantOwner(t, a, "10.2.0.0", 2)
		wantOwner(t, a, "11.0.0.0", 1)
	}
	permute(nil)
	r := rand.New(rand.NewPCG(14, 5))
	for range 100 {
		m := model{}
		for range api.MaxRoutes {
			p := chancePrefix(r)
			m[p] = 1 + r.IntN(9)
		}
		var a *trie.Trie
		rows := m.sorted()
		for _, i := range r.Perm(len(rows)) {
			a = put(t, a, rows[i].Prefix, rows[i].Owner)
		}
		same(t, a, m)
		finds(t, a, m, about(m))
	}
}

// P14.5: what is put and dropped leaves what was, and what is put in its place is put back.
func TestPutAndDropped(t *testing.T) {
	r := rand.New(rand.NewPCG(14, 6))
	for range 100 {
		var a *trie.Trie
		m := model{}
		for range r.IntN(api.MaxRoutes) {
			p := chancePrefix(r)
			a, m = put(t, a, p, 3), m.with(p, 3)
		}
		for range 20 {
			p := chancePrefix(r)
			if _, there := m[p]; there {
				same(t, put(t, put(t, a, p, 8), p, 3), m)
				same(t, put(t, drop(t, a, p), p, 3), m)
				continue
			}
			b := drop(t, put(t, a, p, 8), p)
			same(t, b, m)
			finds(t, b, m, append(about(m), about(model{p: 8})...))
			c := put(t, a, p, 8).DropAll(8)
			same(t, c, m)
			finds(t, c, m, about(model{p: 8}))
		}
	}
}

// P14.2: the order of routes is that of their prefixes, by Before.
func TestOrderOfRoutes(t *testing.T) {
	a := of(t, "::1/128", "10.0.0.0/16", "::/0", "10.0.0.0/8", "0.0.0.0/0", "9.255.255.255/32", "10.0.0.0/32", "::/128", "8000::/1", "128.0.0.0/1", "::/1", "10.0.0.1/32")
	want := []string{"0.0.0.0/0", "9.255.255.255/32", "10.0.0.0/8", "10.0.0.0/16", "10.0.0.0/32", "10.0.0.1/32", "128.0.0.0/1", "::/0", "::/1", "::/128", "::1/128", "8000::/1"}
	var got []string
	for i, r := range a.Routes() {
		s, _ := cidr.PrintPrefix(r.Prefix)
		got = append(got, s)
		if i > 0 && !cidr.Before(a.Routes()[i-1].Prefix, r.Prefix) {
			t.Errorf("%s stands behind what it is ahead of", s)
		}
	}
	if !slices.Equal(got, want) {
		t.Errorf("%v, want %v", got, want)
	}
}

// P1, P14.2: addresses that may not be are nobody's.
func TestFindOfWrong(t *testing.T) {
	a := of(t, "0.0.0.0/0", "::/0", "10.0.0.0/8", "10.0.0.0/32")
	for i := 4; i < 16; i++ {
		for _, v := range []byte{1, 128, 255} {
			at := api.Addr{B: [16]byte{10}}
			at.B[i] = v
			if r, there := a.Find(at); r != (trie.Route{}) || there {
				t.Errorf("Find(%v): %v %v", at, r, there)
			}
			at.Six = true
			if r, there := a.Find(at); r.Owner != 2 || !there {
				t.Errorf("Find(%v): %v %v", at, r, there)
			}
		}
	}
}

// Each address of a small part is of the longest prefix, whatever routes there are of it.
func TestEachOfAPart(t *testing.T) {
	r := rand.New(rand.NewPCG(14, 7))
	for range 40 {
		var a *trie.Trie
		m := model{}
		for range 20 {
			bits := 24 + r.IntN(9)
			p := cut(api.Addr{B: [16]byte{192, 0, 2, byte(r.Uint32())}}, bits)
			a, m = put(t, a, p, bits), m.with(p, bits)
		}
		for v := range 256 {
			at := api.Addr{B: [16]byte{192, 0, 2, byte(v)}}
			want, there := m.find(at)
			if got, ok := a.Find(at); got != want || ok != there {
				t.Fatalf("%s: %v %v, want %v", "192.0.2."+strconv.Itoa(v), got, ok, want)
			}
		}
	}
}
