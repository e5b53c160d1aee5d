package record_test

import (
	"encoding/base64"
	"math"
	"math/rand/v2"
	"net/netip"
	"slices"
	"strconv"
	"strings"
	"testing"

	"adit/api"
	"adit/cidr"
	"adit/record"
)

// noughts is the word of a key of noughts.
const noughts = "AAAAAAAAAAAAAAAAAAAAAAAAAAAAAAAAAAAAAAAAAAA="

// kinds are all kinds of changes.
func kinds() []int {
	return []int{record.SetShared, record.SetEnd, record.ClearEnd, record.SetKeep, record.AddRoute, record.DropRoute, record.ClearRoutes}
}

// key is a key whose bytes rise from one on.
func key(first int) api.Key {
	var out api.Key
	for i := range out {
		out[i] = byte(first + i)
	}
	return out
}

// word is a key's word, as another program writes it.
func word(k api.Key) string { return base64.StdEncoding.EncodeToString(k[:]) }

// addr is a text's address, as another program reads it.
func addr(s string) api.Addr {
	a := netip.MustParseAddr(s)
	out := api.Addr{Six: a.Is6()}
	copy(out.B[:], a.AsSlice())
	return out
}

// prefix is a text's prefix, as another program reads it.
func prefix(s string) api.Prefix {
	p := netip.MustParsePrefix(s)
	if p != p.Masked() {
		panic(s)
	}
	return api.Prefix{Addr: addr(p.Addr().String()), Bits: p.Bits()}
}

// prefixes are texts' prefixes.
func prefixes(all ...string) []api.Prefix {
	var out []api.Prefix
	for _, s := range all {
		out = append(out, prefix(s))
	}
	return out
}

// end is a text's end, as another program reads it.
func end(s string) api.End {
	e := netip.MustParseAddrPort(s)
	return api.End{Addr: addr(e.Addr().String()), Port: int(e.Port())}
}

// many are prefixes that rise strictly.
func many(n int) []api.Prefix {
	var out []api.Prefix
	for i := range n {
		out = append(out, api.Prefix{Addr: api.Addr{B: [16]byte{10, byte(i / 200), byte(i%200 + 1)}}, Bits: 24})
	}
	return out
}

// whole is a peer that has all.
func whole() record.Peer {
	return record.Peer{Public: key(1), Shared: key(100), HasEnd: true, End: end("192.0.2.1:51820"), Keep: 25,
		Routes: prefixes("10.0.0.0/8", "10.0.0.0/16", "10.1.0.0/16", "::/0", "2001:db8::/32")}
}

// peers are peers that may be, at their edges and ordinary ones, with their lines, as another program would write them.
func peers() ([]record.Peer, []string) {
	one := "public=" + word(key(1)) + " shared=" + word(key(100))
	return []record.Peer{
		{},
		{Public: key(1)},
		{Shared: key(1)},
		{Public: key(7), Shared: key(7), Keep: 1},
		{Keep: 65535},
		{HasEnd: true, End: api.End{Port: 1}},
		{HasEnd: true, End: end("255.255.255.255:65535")},
		{HasEnd: true, End: end("[::]:1")},
		{HasEnd: true, End: end("[2001:db8::1]:51820"), Keep: 10},
		{Routes: prefixes("0.0.0.0/0")},
		{Routes: prefixes("::/0")},
		{Routes: prefixes("0.0.0.0/0", "0.0.0.0/1", "0.0.0.0/32", "255.255.255.255/32", "::/0", "::/128", "::1/128")},
		whole(),
		{Public: key(1), Shared: key(100), Routes: many(64)},
	}, []string{
		"public=" + noughts + " shared=" + noughts + " keep=0",
		"public=" + word(key(1)) + " shared=" + noughts + " keep=0",
		"public=" + noughts + " shared=" + word(key(1)) + " keep=0",
		"public=" + word(key(7)) + " shared=" + word(key(7)) + " keep=1",
		"public=" + noughts + " shared=" + noughts + " keep=65535",
		"public=" + noughts + " shared=" + noughts + " end=0.0.0.0:1 keep=0",
		"public=" + noughts + " shared=" + noughts + " end=255.255.255.255:65535 keep=0",
		"public=" + noughts + " shared=" + noughts + " end=[::]:1 keep=0",
		"public=" + noughts + " shared=" + noughts + " end=[2001:db8::1]:51820 keep=10",
		"public=" + noughts + " shared=" + noughts + " keep=0 routes=0.0.0.0/0",
		"public=" + noughts + " shared=" + noughts + " keep=0 routes=::/0",
		"public=" + noughts + " shared=" + noughts + " keep=0 routes=0.0.0.0/0,0.0.0.0/1,0.0.0.0/32,255.255.255.255/32,::/0,::/128,::1/128",
		one + " end=192.0.2.1:51820 keep=25 routes=10.0.0.0/8,10.0.0.0/16,10.1.0.0/16,::/0,2001:db8::/32",
		one + " keep=0 routes=" + manyTexts(64),
	}
}

// manyTexts are the texts of many, with commas between.
func manyTexts(n int) string {
	var out []string
	for i := range n {
		out = append(out, "10."+strconv.Itoa(i/200)+"."+strconv.Itoa(i%200+1)+".0/24")
	}
	return strings.Join(out, ",")
}

// wrongEnds are ends that have no text.
func wrongEnds() []api.End {
	good := end("192.0.2.1:51820")
	return []api.End{
		{Addr: good.Addr}, {Addr: good.Addr, Port: -1}, {Addr: good.Addr, Port: 65536}, {Addr: good.Addr, Port: math.MinInt}, {Addr: good.Addr, Port: math.MaxInt},
		{Addr: api.Addr{B: [16]byte{4: 1}}, Port: 1}, {Addr: api.Addr{B: [16]byte{192, 0, 2, 1, 15: 1}}, Port: 51820}, {Addr: api.Addr{Six: true}}, {},
	}
}

// wrongPrefixes are prefixes that may not be.
func wrongPrefixes() []api.Prefix {
	return []api.Prefix{
		{Bits: -1}, {Bits: 33}, {Bits: math.MinInt}, {Bits: math.MaxInt}, {Addr: api.Addr{B: [16]byte{10, 0, 0, 1}}, Bits: 8},
		{Addr: api.Addr{B: [16]byte{4: 1}}, Bits: 32}, {Addr: api.Addr{Six: true}, Bits: 129}, {Addr: api.Addr{Six: true, B: [16]byte{15: 1}}, Bits: 127},
	}
}

// wrongPeers are peers that may not be, told by what is wrong with them.
func wrongPeers() map[string]record.Peer {
	out := map[string]record.Peer{}
	with := func(name string, change func(p *record.Peer)) {
		p := whole()
		change(&p)
		out[name] = p
	}
	for i, x := range wrongEnds() {
		with("end "+strconv.Itoa(i), func(p *record.Peer) { p.End = x })
	}
	with("an end that it has not", func(p *record.Peer) { p.HasEnd = false })
	with("a port that it has not", func(p *record.Peer) { p.HasEnd, p.End = false, api.End{Port: 1} })
	with("an address that it has not", func(p *record.Peer) { p.HasEnd, p.End = false, api.End{Addr: api.Addr{Six: true}} })
	for _, n := range []int{-1, 65536, -65536, math.MinInt, math.MaxInt} {
		with("keep "+strconv.Itoa(n), func(p *record.Peer) { p.Keep = n })
	}
	for i, x := range wrongPrefixes() {
		with("a lone route "+strconv.Itoa(i), func(p *record.Peer) { p.Routes = []api.Prefix{x} })
		with("a first route "+strconv.Itoa(i), func(p *record.Peer) { p.Routes = append([]api.Prefix{x}, p.Routes...) })
		with("a last route "+strconv.Itoa(i), func(p *record.Peer) { p.Routes = append(p.Routes, x) })
	}
	with("the same route", func(p *record.Peer) { p.Routes = prefixes("10.0.0.0/8", "10.0.0.0/8") })
	with("falling routes", func(p *record.Peer) { p.Routes = prefixes("10.0.0.0/16", "10.0.0.0/8") })
	with("the first two fall", func(p *record.Peer) { p.Routes = prefixes("10.0.0.0/8", "9.0.0.0/8", "11.0.0.0/8") })
	with("the last two fall", func(p *record.Peer) { p.Routes = prefixes("9.0.0.0/8", "11.0.0.0/8", "10.0.0.0/8") })
	with("IPv6 first", func(p *record.Peer) { p.Routes = prefixes("::/0", "10.0.0.0/8") })
	with("too many routes", func(p *record.Peer) { p.Routes = many(65) })
	with("far too many routes", func(p *record.Peer) { p.Routes = many(1000) })
	return out
}

// changes are changes that may be, with their texts, as another program would write them.
func changes() ([]record.Change, []string) {
	return []record.Change{
		{Kind: record.SetShared},
		{Kind: record.SetShared, Key: key(3)},
		{Kind: record.SetEnd, End: api.End{Port: 1}},
		{Kind: record.SetEnd, End: end("192.0.2.1:65535")},
		{Kind: record.SetEnd, End: end("[2001:db8::1]:51820")},
		{Kind: record.ClearEnd},
		{Kind: record.SetKeep},
		{Kind: record.SetKeep, Keep: 25},
		{Kind: record.SetKeep, Keep: 65535},
		{Kind: record.AddRoute},
		{Kind: record.AddRoute, Prefix: prefix("10.1.2.0/24")},
		{Kind: record.AddRoute, Prefix: prefix("2001:db8::/33")},
		{Kind: record.DropRoute},
		{Kind: record.DropRoute, Prefix: prefix("10.1.2.0/24")},
		{Kind: record.DropRoute, Prefix: prefix("::1/128")},
		{Kind: record.ClearRoutes},
	}, []string{
		"shared=" + noughts,
		"shared=" + word(key(3)),
		"end=0.0.0.0:1",
		"end=192.0.2.1:65535",
		"end=[2001:db8::1]:51820",
		"end=none",
		"keep=0",
		"keep=25",
		"keep=65535",
		"route=+0.0.0.0/0",
		"route=+10.1.2.0/24",
		"route=+2001:db8::/33",
		"route=-0.0.0.0/0",
		"route=-10.1.2.0/24",
		"route=-::1/128",
		"routes=none",
	}
}

// wrongChanges are changes that may not be.
func wrongChanges() []record.Change {
	var out []record.Change
	for _, n := range []int{0, -1, 8, 9, 100, math.MinInt, math.MaxInt} {
		out = append(out, record.Change{Kind: n}, record.Change{Kind: n, Key: key(1)}, record.Change{Kind: n, Keep: 1}, record.Change{Kind: n, Prefix: prefix("10.0.0.0/8")})
	}
	right, _ := changes()
	for _, c := range right {
		counts := func(all ...int) bool { return slices.Contains(all, c.Kind) }
		with := func(change func(c *record.Change)) {
			d := c
			change(&d)
			out = append(out, d)
		}
		if !counts(record.SetShared) {
			with(func(c *record.Change) { c.Key = key(1) })
			with(func(c *record.Change) { c.Key[31] = 1 })
		}
		if !counts(record.SetEnd) {
			with(func(c *record.Change) { c.End = end("192.0.2.1:1") })
			with(func(c *record.Change) { c.End.Port = -1 })
			with(func(c *record.Change) { c.End.Addr.Six = true })
		}
		if !counts(record.SetKeep) {
			with(func(c *record.Change) { c.Keep = 1 })
			with(func(c *record.Change) { c.Keep = math.MinInt })
		}
		if !counts(record.AddRoute, record.DropRoute) {
			with(func(c *record.Change) { c.Prefix = prefix("10.0.0.0/8") })
			with(func(c *record.Change) { c.Prefix.Bits = 1 })
			with(func(c *record.Change) { c.Prefix.Addr.Six = true })
		}
	}
	for _, x := range wrongEnds() {
		out = append(out, record.Change{Kind: record.SetEnd, End: x})
	}
	for _, n := range []int{-1, 65536, math.MinInt, math.MaxInt} {
		out = append(out, record.Change{Kind: record.SetKeep, Keep: n})
	}
	for _, x := range wrongPrefixes() {
		out = append(out, record.Change{Kind: record.AddRoute, Prefix: x}, record.Change{Kind: record.DropRoute, Prefix: x})
	}
	return out
}

// isZero tells whether a peer is the zero one, with a list nil or empty.
func isZero(p record.Peer) bool { return equal(p, record.Peer{}) }

// equal tells whether peers are equal, field by field.
func equal(p, q record.Peer) bool {
	if len(p.Routes) != len(q.Routes) {
		return false
	}
	for i := range p.Routes {
		if p.Routes[i] != q.Routes[i] {
			return false
		}
	}
	return p.Public == q.Public && p.Shared == q.Shared && p.HasEnd == q.HasEnd && p.End == q.End && p.Keep == q.Keep
}

// copied is an equal peer with a list of its own.
func copied(p record.Peer) record.Peer {
	p.Routes = slices.Clone(p.Routes)
	return p
}

// apply holds what a change makes of a peer, and that the peer stays as it was.
func apply(t *testing.T, p record.Peer, c record.Change, want record.Peer) {
	t.Helper()
	before := copied(p)
	q, e := record.Apply(p, c)
	if e != api.OK || !equal(q, want) {
		t.Fatalf("Apply(%v, %v): %v %v, want %v", p, c, q, e, want)
	}
	if !equal(p, before) {
		t.Fatalf("Apply(%v, %v) changed the peer: %v", before, c, p)
	}
	if len(q.Routes) > 0 && len(p.Routes) > 0 && &q.Routes[0] == &p.Routes[0] {
		t.Fatalf("Apply(%v, %v) hands out the list that was handed in", p, c)
	}
	if cap(q.Routes) != len(q.Routes) {
		t.Fatalf("Apply(%v, %v): there is room behind the list", p, c)
	}
}

// noApply holds that a change is not done.
func noApply(t *testing.T, p record.Peer, c record.Change, want api.Errno) {
	t.Helper()
	before := copied(p)
	if q, e := record.Apply(p, c); e != want || !isZero(q) {
		t.Fatalf("Apply(%v, %v): %v %v, want %v", p, c, q, e, want)
	}
	if !equal(p, before) {
		t.Fatalf("Apply(%v, %v) changed the peer: %v", before, c, p)
	}
}

// noRead holds that a text is no peer's line.
func noRead(t *testing.T, s string) {
	t.Helper()
	if p, e := record.Read(s); e != api.ErrForm || !isZero(p) {
		t.Errorf("Read(%.200q): %v %v", s, p, e)
	}
}

// noReadChange holds that a text is no change's.
func noReadChange(t *testing.T, s string) {
	t.Helper()
	if c, e := record.ReadChange(s); e != api.ErrForm || c != (record.Change{}) {
		t.Errorf("ReadChange(%.200q): %v %v", s, c, e)
	}
}

// The chapter's example.
func TestExample(t *testing.T) {
	if c, e := record.ReadChange("end=none"); c != (record.Change{Kind: record.ClearEnd}) || e != api.OK {
		t.Errorf("end=none: %v %v", c, e)
	}
}

// The kinds have the chapter's numbers.
func TestKinds(t *testing.T) {
	if !slices.Equal(kinds(), []int{1, 2, 3, 4, 5, 6, 7}) {
		t.Errorf("kinds: %v", kinds())
	}
}

// P23.1: Right.
func TestRight(t *testing.T) {
	all, lines := peers()
	for i, p := range all {
		if !record.Right(p) {
			t.Errorf("may not be: %q", lines[i])
		}
		p.Routes = append([]api.Prefix{}, p.Routes...)
		if !record.Right(p) {
			t.Errorf("may not be with an empty list: %q", lines[i])
		}
	}
	for name, p := range wrongPeers() {
		if record.Right(p) {
			t.Errorf("%s: may be", name)
		}
	}
	for n := range 130 {
		if got := record.Right(record.Peer{Routes: many(n)}); got != (n <= api.MaxRoutes) {
			t.Errorf("%d routes: %v", n, got)
		}
	}
	for n := -10; n < 65600; n++ {
		if got := record.Right(record.Peer{Keep: n}); got != (n >= 0 && n <= 65535) {
			t.Errorf("keep %d: %v", n, got)
		}
	}
}

// P23.1: routes rise strictly by 11's order, wherever two do not.
func TestRightOrder(t *testing.T) {
	l := prefixes("0.0.0.0/0", "0.0.0.0/8", "9.0.0.0/8", "10.0.0.0/8", "10.0.0.0/9", "10.128.0.0/9", "::/0", "::/1", "::/128", "::1/128", "8000::/1")
	for i := range l {
		for j := range l {
			if got := record.Right(record.Peer{Routes: []api.Prefix{l[i], l[j]}}); got != (i < j) {
				t.Errorf("%v ahead of %v: %v", l[i], l[j], got)
			}
			swapped := slices.Clone(l)
			swapped[i], swapped[j] = swapped[j], swapped[i]
			if got := record.Right(record.Peer{Routes: swapped}); got != (i == j) {
				t.Errorf("%d and %d in each other's place: %v", i, j, got)
			}
		}
	}
}

// P23.1: RightChange.
func TestRightChange(t *testing.T) {
	all, texts := changes()
	for i, c := range all {
		if !record.RightChange(c) {
			t.Errorf("may not be: %q", texts[i])
		}
	}
	for _, c := range wrongChanges() {
		if record.RightChange(c) {
			t.Errorf("may be: %v", c)
		}
	}
	if record.RightChange(record.Change{}) {
		t.Errorf("the zero change may be")
	}
}

// P23.1: Same.
func TestSame(t *testing.T) {
	all, lines := peers()
	for name, p := range wrongPeers() {
		all, lines = append(all, p), append(lines, name)
	}
	for i, p := range all {
		for j, q := range all {
			if got := record.Same(p, copied(q)); got != (i == j) {
				t.Errorf("%q and %q: %v", lines[i], lines[j], got)
			}
		}
	}
	for i, change := range []func(p *record.Peer){
		func(p *record.Peer) { p.Public[0]++ }, func(p *record.Peer) { p.Public[31]++ }, func(p *record.Peer) { p.Shared[0]++ }, func(p *record.Peer) { p.Shared[31]++ },
		func(p *record.Peer) { p.HasEnd = false }, func(p *record.Peer) { p.End.Port++ }, func(p *record.Peer) { p.End.Addr.Six = true },
		func(p *record.Peer) { p.End.Addr.B[15]++ }, func(p *record.Peer) { p.Keep++ }, func(p *record.Peer) { p.Routes = nil },
		func(p *record.Peer) { p.Routes = p.Routes[:4] }, func(p *record.Peer) { p.Routes = p.Routes[1:] }, func(p *record.Peer) { p.Routes[4].Bits++ },
		func(p *record.Peer) { p.Routes[0].Addr.B[15]++ }, func(p *record.Peer) { p.Routes = append(p.Routes, prefix("3000::/4")) },
		func(p *record.Peer) { slices.Reverse(p.Routes) },
	} {
		p := whole()
		change(&p)
		if record.Same(p, whole()) || record.Same(whole(), p) || !record.Same(p, copied(p)) {
			t.Errorf("change %d", i)
		}
	}
}

// P23.1 and rule 4: a list without elements may be nil or empty; what lies behind a list's length is not read.
func TestSameLists(t *testing.T) {
	if !record.Same(record.Peer{}, record.Peer{Routes: []api.Prefix{}}) || !record.Same(record.Peer{Routes: []api.Prefix{}}, record.Peer{}) {
		t.Errorf("nil and empty")
	}
	long, short := whole(), whole()
	long.Routes = append(slices.Grow(long.Routes[:2:2], 9), prefix("99.0.0.0/8"))[:2]
	short.Routes = short.Routes[:2:2]
	if !record.Same(long, short) || !record.Same(short, long) {
		t.Errorf("unlike elements behind the lists' length")
	}
}

// P23.2: what each kind of change makes of peers.
func TestApply(t *testing.T) {
	all, _ := peers()
	for _, p := range all {
		want := copied(p)
		want.Shared = key(9)
		apply(t, p, record.Change{Kind: record.SetShared, Key: key(9)}, want)
		want.Shared = api.Key{}
		apply(t, p, record.Change{Kind: record.SetShared}, want)

		for _, x := range []api.End{end("203.0.113.9:99"), end("[fe80::1]:1"), {Port: 65535}} {
			want = copied(p)
			want.HasEnd, want.End = true, x
			apply(t, p, record.Change{Kind: record.SetEnd, End: x}, want)
		}
		want = copied(p)
		want.HasEnd, want.End = false, api.End{}
		apply(t, p, record.Change{Kind: record.ClearEnd}, want)

		for _, n := range []int{0, 1, 25, 65535} {
			want = copied(p)
			want.Keep = n
			apply(t, p, record.Change{Kind: record.SetKeep, Keep: n}, want)
		}
		want = copied(p)
		want.Routes = nil
		apply(t, p, record.Change{Kind: record.ClearRoutes}, want)
	}
}

// P23.2: routes are added in their places, and dropped.
func TestApplyRoutes(t *testing.T) {
	l := prefixes("0.0.0.0/0", "0.0.0.0/8", "9.0.0.0/8", "10.0.0.0/8", "10.0.0.0/9", "10.128.0.0/9", "::/0", "::/1", "::/128", "::1/128", "8000::/1")
	for i, x := range l {
		all := whole()
		all.Routes = l
		without := whole()
		without.Routes = slices.Delete(slices.Clone(l), i, i+1)
		lone := whole()
		lone.Routes = []api.Prefix{x}
		none := whole()
		none.Routes = nil
		add, drop := record.Change{Kind: record.AddRoute, Prefix: x}, record.Change{Kind: record.DropRoute, Prefix: x}
		apply(t, all, add, all)
		apply(t, all, drop, without)
		apply(t, without, add, all)
		noApply(t, without, drop, api.ErrNone)
		apply(t, none, add, lone)
		apply(t, lone, add, lone)
		apply(t, lone, drop, none)
		noApply(t, none, drop, api.ErrNone)
	}
}

// P23.2: prefixes that are alike but for one thing are others.
func TestApplyOtherRoutes(t *testing.T) {
	p := whole()
	p.Routes = prefixes("10.0.0.0/8", "::/0")
	for _, s := range []string{"10.0.0.0/7", "10.0.0.0/9", "11.0.0.0/8", "0.0.0.0/0", "0.0.0.0/8", "a00::/8", "::/1", "::/128"} {
		noApply(t, p, record.Change{Kind: record.DropRoute, Prefix: prefix(s)}, api.ErrNone)
		q, e := record.Apply(p, record.Change{Kind: record.AddRoute, Prefix: prefix(s)})
		if e != api.OK || len(q.Routes) != 3 || !slices.Contains(q.Routes, prefix(s)) || !record.Right(q) {
			t.Errorf("%s: %v %v", s, q, e)
		}
	}
}

// P23.2: at MaxRoutes, and one beyond it.
func TestApplyFull(t *testing.T) {
	p := record.Peer{Public: key(1), Routes: many(api.MaxRoutes - 1)}
	full := record.Peer{Public: key(1), Routes: many(api.MaxRoutes)}
	last := full.Routes[api.MaxRoutes-1]
	apply(t, p, record.Change{Kind: record.AddRoute, Prefix: last}, full)
	for _, r := range full.Routes {
		apply(t, full, record.Change{Kind: record.AddRoute, Prefix: r}, full)
	}
	for _, s := range []string{"0.0.0.0/0", "10.0.0.0/8", "10.0.40.0/25", "255.0.0.0/8", "::/0"} {
		noApply(t, full, record.Change{Kind: record.AddRoute, Prefix: prefix(s)}, api.ErrFull)
		noApply(t, full, record.Change{Kind: record.DropRoute, Prefix: prefix(s)}, api.ErrNone)
	}
	apply(t, full, record.Change{Kind: record.DropRoute, Prefix: last}, p)
	apply(t, full, record.Change{Kind: record.ClearRoutes}, record.Peer{Public: key(1)})
	kept := copied(full)
	kept.Keep = 5
	apply(t, full, record.Change{Kind: record.SetKeep, Keep: 5}, kept)
}

// P23.2: what may not be is told ahead of all else.
func TestApplyForm(t *testing.T) {
	all, _ := changes()
	for _, p := range wrongPeers() {
		for _, c := range append(wrongChanges(), all...) {
			noApply(t, p, c, api.ErrForm)
		}
	}
	right, _ := peers()
	for _, p := range right {
		for _, c := range wrongChanges() {
			noApply(t, p, c, api.ErrForm)
		}
	}
}

// P23.2 and rule 5: what is handed out is new memory, also where nothing is changed.
func TestApplyNewMemory(t *testing.T) {
	for _, c := range []record.Change{
		{Kind: record.SetShared}, {Kind: record.ClearEnd}, {Kind: record.SetKeep}, {Kind: record.AddRoute, Prefix: prefix("10.0.0.0/8")},
		{Kind: record.AddRoute, Prefix: prefix("::/0")}, {Kind: record.AddRoute, Prefix: prefix("ff00::/8")}, {Kind: record.AddRoute},
		{Kind: record.DropRoute, Prefix: prefix("2001:db8::/32")}, {Kind: record.DropRoute, Prefix: prefix("10.0.0.0/8")},
	} {
		p := whole()
		p.Routes = slices.Grow(p.Routes, 9)
		behind := p.Routes[:cap(p.Routes)][len(p.Routes):]
		q, e := record.Apply(p, c)
		if e != api.OK {
			t.Fatalf("%v: %v", c, e)
		}
		for i := range q.Routes {
			q.Routes[i] = api.Prefix{Bits: -99}
		}
		if !equal(p, whole()) {
			t.Errorf("%v: the list is shared", c)
		}
		for _, r := range behind {
			if r != (api.Prefix{}) {
				t.Errorf("%v: what lies behind the list was written", c)
			}
		}
	}
}

// P23.3: Write.
func TestWrite(t *testing.T) {
	all, lines := peers()
	for i, p := range all {
		before := copied(p)
		if s, e := record.Write(p); s != lines[i] || e != api.OK || !equal(p, before) {
			t.Errorf("%q %v, want %q", s, e, lines[i])
		}
	}
	for name, p := range wrongPeers() {
		if s, e := record.Write(p); s != "" || e != api.ErrForm {
			t.Errorf("%s: %q %v", name, s, e)
		}
	}
}

// P23.3: Read.
func TestRead(t *testing.T) {
	all, lines := peers()
	for i, s := range lines {
		p, e := record.Read(s)
		if e != api.OK || !equal(p, all[i]) || cap(p.Routes) != len(p.Routes) {
			t.Errorf("%q: %v %v", s, p, e)
		}
	}
}

// P23.3: texts that are nearly lines.
func TestReadWrong(t *testing.T) {
	k := "public=" + noughts
	h := "shared=" + noughts
	for _, row := range []string{
		"", " ", "keep=0", k, h, "none", "public=", k + " keep=0", h + " keep=0", k + " " + h, k + " " + h + " keep", k + " " + h + " keep=",
		h + " " + k + " keep=0", "keep=0 " + k + " " + h, k + " keep=0 " + h, k + " " + k + " " + h + " keep=0", k + " " + h + " " + h + " keep=0",
		k + " " + h + " keep=0 keep=0", k + " " + h + " keep=0 keep=1", k + " " + h + " keep=1 keep=0", k + " " + h + " keep=0 end=192.0.2.1:1",
		k + " " + h + " routes=10.0.0.0/8 keep=0", k + " " + h + " keep=0 x=1", "x=1 " + k + " " + h + " keep=0", k + " x " + h + " keep=0",
		noughts + " " + noughts + " 0", k + " shared " + noughts + " keep=0", k + "=" + " " + h + " keep=0",
	} {
		noRead(t, row)
	}
	base := k + " " + h + " keep=0"
	for _, s := range []string{" " + base, base + " ", base + "\n", strings.Replace(base, " ", "  ", 1), strings.Replace(base, " ", "\t", 1), strings.ToUpper(base), "Public" + base[6:],
		strings.Replace(base, "=", " = ", 1), strings.Replace(base, "keep", "keeps", 1), strings.Replace(base, "keep", "kee", 1), base + "\x00", base + base, base + " " + base} {
		noRead(t, s)
	}
	for _, word := range []string{"00", "01", "-1", "+1", "65536", "65535 ", "99999999999999999999999", "0x1", "1.0", " 1", "a", "1,2", "none"} {
		noRead(t, k+" "+h+" keep="+word)
	}
	for _, word := range []string{noughts[1:], noughts + "=", "A" + noughts, strings.Repeat("A", 44), noughts[:42] + "B=", "!" + noughts[1:], "", "none"} {
		noRead(t, "public="+word+" "+h+" keep=0")
		noRead(t, k+" shared="+word+" keep=0")
	}
}

// P23.3: ends and routes that are not written as they are written in lines.
func TestReadWrongAddresses(t *testing.T) {
	front := "public=" + noughts + " shared=" + noughts
	for _, word := range []string{"none", "", "192.0.2.1", "192.0.2.1:0", "192.0.2.1:65536", "192.0.2.1:01", "192.0.2.01:1", "[192.0.2.1]:1", "::1:1", "[::1]", "[::1]:", "[0::1]:1",
		"[::0:1]:1", "[::01]:1", "[2001:DB8::1]:1", "[2001:db8:0:0:0:0:0:1]:1", "1:1", "192.0.2.1:1,192.0.2.1:1", "192.0.2.1:1:1"} {
		noRead(t, front+" end="+word+" keep=0")
	}
	noRead(t, front+" end=192.0.2.1:1 end=192.0.2.1:1 keep=0")
	noRead(t, front+" end=192.0.2.1:1 end=192.0.2.2:1 keep=0")
	noRead(t, front+" keep=0 end=192.0.2.1:1")
	for _, word := range []string{"none", "", ",", "10.0.0.0", "10.0.0.0/", "10.0.0.0/08", "10.0.0.0/33", "10.0.0.1/8", "10.0.0.0/-1", "10.0.0.0/8,", ",10.0.0.0/8", "10.0.0.0/8,,11.0.0.0/8",
		"10.0.0.0/8,10.0.0.0/8", "11.0.0.0/8,10.0.0.0/8", "::/0,10.0.0.0/8", "10.0.0.0/9,10.0.0.0/8", "10.0.0.0/8;11.0.0.0/8", "10.0.0.0/8, 11.0.0.0/8", "010.0.0.0/8", "0::/0", "A::/16",
		"0:0:0:0:0:0:0:0/0", "::0/0", "::/129", "+10.0.0.0/8", "10.0.0.0/8,x", "x,10.0.0.0/8", "10.0.0.0/8,x,11.0.0.0/8", manyTexts(65), manyTexts(66), manyTexts(2000), manyTexts(64) + ",", manyTexts(64) + ",x"} {
		noRead(t, front+" keep=0 routes="+word)
	}
	noRead(t, front+" keep=0 routes=10.0.0.0/8 routes=10.0.0.0/8")
	noRead(t, front+" keep=0 routes=10.0.0.0/8 routes=11.0.0.0/8")
	noRead(t, front+" keep=0 route=+10.0.0.0/8")
	for _, n := range []int{1, 63, 64} {
		if p, e := record.Read(front + " keep=0 routes=" + manyTexts(n)); e != api.OK || !equal(p, record.Peer{Routes: many(n)}) {
			t.Errorf("%d routes: %v %v", n, p, e)
		}
	}
}

// P1: long texts end.
func TestReadLong(t *testing.T) {
	front := "public=" + noughts + " shared=" + noughts
	for _, n := range []int{api.MaxText - 1, api.MaxText, api.MaxText + 1, 1 << 22} {
		for _, s := range []string{" ", ",", "=", "A", "1", ":", "/", ".", "[", "+", "keep=0 ", "routes=", "10.0.0.0/8,", "\x00", "é"} {
			long := strings.Repeat(s, n/len(s))
			for _, s := range []string{long, front + " keep=" + long, front + " keep=0 routes=" + long, front + " end=" + long + " keep=0", front + " keep=0" + long, long + front + " keep=0"} {
				noRead(t, s)
			}
			for _, s := range []string{long, "shared=" + long, "end=" + long, "keep=" + long, "route=" + long, "route=+" + long, "routes=" + long, "keep=0" + long} {
				noReadChange(t, s)
			}
		}
	}
}

// P23.4: WriteChange and ReadChange.
func TestChanges(t *testing.T) {
	all, texts := changes()
	for i, c := range all {
		if s, e := record.WriteChange(c); s != texts[i] || e != api.OK {
			t.Errorf("%v: %q %v, want %q", c, s, e, texts[i])
		}
		if d, e := record.ReadChange(texts[i]); d != c || e != api.OK {
			t.Errorf("%q: %v %v, want %v", texts[i], d, e, c)
		}
	}
	for _, c := range wrongChanges() {
		if s, e := record.WriteChange(c); s != "" || e != api.ErrForm {
			t.Errorf("%v: %q %v", c, s, e)
		}
	}
}

// P23.4: texts that are nearly changes'.
func TestReadChangeWrong(t *testing.T) {
	for _, s := range []string{
		"", " ", "=", "none", "shared", "end", "keep", "route", "routes", "shared=", "end=", "keep=", "route=", "routes=", "shared=none", "keep=none", "route=none", "route=+none", "route=-none",
		"public=" + noughts, "public=none", "x=1", "=none", "Shared=" + noughts, "END=none", "end=None", "end=none ", " end=none", "end =none", "end= none", "end=none=", "end==none", "end=nonee",
		"shared=" + noughts[1:], "shared=" + noughts + "=", "shared=A" + noughts, "shared==" + noughts[1:], "shared=" + noughts[:42] + "B=", "shared=" + noughts + " ",
		"end=192.0.2.1", "end=192.0.2.1:0", "end=192.0.2.1:65536", "end=192.0.2.1:01", "end=192.0.2.1:", "end=[192.0.2.1]:1", "end=::1:1", "end=[::1]", "end=[0::1]:1", "end=[FE80::1]:1", "end=192.0.2.256:1",
		"keep=00", "keep=01", "keep=-1", "keep=+1", "keep=65536", "keep=99999999999999999999", "keep=1 ", "keep= 1", "keep=1.0", "keep=1s", "keep=0x1",
		"route=10.0.0.0/8", "route=*10.0.0.0/8", "route=+-10.0.0.0/8", "route=-+10.0.0.0/8", "route=++10.0.0.0/8", "route=--10.0.0.0/8", "route=+", "route=-", "route=+10.0.0.0", "route=+10.0.0.0/33",
		"route=+10.0.0.1/8", "route=-10.0.0.1/8", "route=+10.0.0.0/08", "route=+ 10.0.0.0/8", "route=+10.0.0.0/8 ", "route=+10.0.0.0/8,11.0.0.0/8", "route=+0::/0", "route=-A::/16", "route=+::/129",
		"routes=10.0.0.0/8", "routes=+10.0.0.0/8", "routes=None", "routes=none,", "routes=none none", "routes=all", "clear", "keep=0 keep=0", "end=none routes=none", "keep=0\n", "keep=0\x00",
	} {
		noReadChange(t, s)
	}
	for n := range 70000 {
		s := "keep=" + strconv.Itoa(n)
		c, e := record.ReadChange(s)
		if n <= 65535 && (e != api.OK || c != record.Change{Kind: record.SetKeep, Keep: n}) || n > 65535 && (e != api.ErrForm || c != record.Change{}) {
			t.Fatalf("%q: %v %v", s, c, e)
		}
	}
}

// spoiled are texts that one byte, or a piece, tells from a text.
func spoiled(r *rand.Rand, s string) []string {
	var out []string
	for range 40 {
		b := []byte(s)
		i := r.IntN(len(b))
		switch r.IntN(5) {
		case 0:
			b[i] = byte(r.IntN(256))
		case 1:
			b[i] = " =,/.:+-[]019afABn"[r.IntN(18)]
		case 2:
			b = slices.Delete(b, i, i+1)
		case 3:
			b = slices.Insert(b, i, " =,/.:+-[]019afABn"[r.IntN(18)])
		case 4:
			j := r.IntN(len(b))
			b[i], b[j] = b[j], b[i]
		}
		out = append(out, string(b))
	}
	return out
}

// randomPeer is a peer that may be.
func randomPeer(r *rand.Rand) record.Peer {
	p := record.Peer{Public: key(r.IntN(256)), Shared: key(r.IntN(256)), Keep: r.IntN(65536)}
	if r.IntN(2) == 0 {
		p.HasEnd, p.End = true, randomEnd(r)
	}
	for range r.IntN(6) {
		p.Routes = append(p.Routes, randomPrefix(r))
	}
	slices.SortFunc(p.Routes, func(a, b api.Prefix) int {
		switch {
		case cidr.Before(a, b):
			return -1
		case cidr.Before(b, a):
			return 1
		}
		return 0
	})
	p.Routes = slices.Compact(p.Routes)
	return p
}

// randomEnd is an end that may be.
func randomEnd(r *rand.Rand) api.End {
	return api.End{Addr: randomPrefix(r).Addr, Port: 1 + r.IntN(65535)}
}

// randomPrefix is a prefix that may be, of few.
func randomPrefix(r *rand.Rand) api.Prefix {
	a := api.Addr{Six: r.IntN(3) == 0}
	size := 4
	if a.Six {
		size = 16
	}
	for i := range size {
		a.B[i] = byte(r.IntN(3)) << r.IntN(8)
	}
	p, e := cidr.Mask(api.Prefix{Addr: a, Bits: r.IntN(8*size + 1)})
	if e != api.OK {
		panic(e)
	}
	return p
}

// randomChange is a change that may be.
func randomChange(r *rand.Rand) record.Change {
	switch c := (record.Change{Kind: 1 + r.IntN(7)}); c.Kind {
	case record.SetShared:
		c.Key = key(r.IntN(256))
		return c
	case record.SetEnd:
		c.End = randomEnd(r)
		return c
	case record.SetKeep:
		c.Keep = r.IntN(65536)
		return c
	case record.AddRoute, record.DropRoute:
		c.Prefix = randomPrefix(r)
		return c
	default:
		return c
	}
}

// P23.5: lines go there and back, in one way alone.
func TestLinesThereAndBack(t *testing.T) {
	r := rand.New(rand.NewPCG(23, 5))
	seen := map[string]record.Peer{}
	for range 2000 {
		p := randomPeer(r)
		s, e := record.Write(p)
		q, f := record.Read(s)
		if e != api.OK || f != api.OK || !equal(p, q) || !record.Same(p, q) {
			t.Fatalf("%v: %q %v, %v %v", p, s, e, q, f)
		}
		if other, there := seen[s]; there && !equal(other, p) {
			t.Fatalf("%q is the line of two", s)
		}
		seen[s] = p
		for _, x := range spoiled(r, s) {
			q, e := record.Read(x)
			if e == api.OK {
				if back, _ := record.Write(q); back != x || x != s && equal(p, q) {
					t.Fatalf("%q is read, but %q is written", x, back)
				}
			} else if e != api.ErrForm || !isZero(q) {
				t.Fatalf("%q: %v %v", x, q, e)
			}
		}
	}
}

// P23.5: changes go there and back, in one way alone.
func TestChangesThereAndBack(t *testing.T) {
	r := rand.New(rand.NewPCG(23, 6))
	for range 5000 {
		c := randomChange(r)
		s, e := record.WriteChange(c)
		d, f := record.ReadChange(s)
		if e != api.OK || f != api.OK || c != d {
			t.Fatalf("%v: %q %v, %v %v", c, s, e, d, f)
		}
		for _, x := range spoiled(r, s) {
			d, e := record.ReadChange(x)
			if e == api.OK {
				if back, _ := record.WriteChange(d); back != x || x != s && c == d {
					t.Fatalf("%q is read, but %q is written", x, back)
				}
			} else if e != api.ErrForm || d != (record.Change{}) {
				t.Fatalf("%q: %v %v", x, d, e)
			}
		}
	}
}

// P23.6: a change that was done, done again, changes nothing more; but a route that was dropped is there no more.
func TestAgain(t *testing.T) {
	r := rand.New(rand.NewPCG(23, 7))
	for range 5000 {
		p, c := randomPeer(r), randomChange(r)
		if c.Kind == record.DropRoute && len(p.Routes) > 0 {
			c.Prefix = p.Routes[r.IntN(len(p.Routes))]
		}
		q, e := record.Apply(p, c)
		if e != api.OK {
			noApply(t, p, c, api.ErrNone)
			continue
		}
		if !record.Right(q) {
			t.Fatalf("Apply(%v, %v): %v may not be", p, c, q)
		}
		if c.Kind == record.DropRoute {
			noApply(t, q, c, api.ErrNone)
		} else {
			apply(t, q, c, q)
		}
	}
}

// P23.6: what was added and dropped leaves what was, if it was not there.
func TestAddedAndDropped(t *testing.T) {
	r := rand.New(rand.NewPCG(23, 8))
	for range 5000 {
		p, x := randomPeer(r), randomPrefix(r)
		was := slices.Contains(p.Routes, x)
		q, e := record.Apply(p, record.Change{Kind: record.AddRoute, Prefix: x})
		if e != api.OK || !slices.Contains(q.Routes, x) {
			t.Fatalf("%v is not added to %v: %v %v", x, p, q, e)
		}
		back, e := record.Apply(q, record.Change{Kind: record.DropRoute, Prefix: x})
		if e != api.OK || slices.Contains(back.Routes, x) || record.Same(back, p) == was {
			t.Fatalf("%v is added to and dropped from %v: %v %v", x, p, back, e)
		}
	}
}
