package plane_test

import (
	"bytes"
	"math/rand/v2"
	"slices"
	"testing"

	"adit/api"
	"adit/cookie"
	"adit/curve"
	"adit/inner"
	"adit/noise"
	"adit/plane"
	"adit/record"
	"adit/vstore"
	"adit/wire"
	"adit/words"
)

// datagram is what is on its way.
type datagram struct {
	from, to api.End
	b        []byte
}

// party is one of three sides that talk to each other.
type party struct {
	n   int
	p   *plane.Plane
	s   *vstore.Store
	end api.End // where it is now
}

// world is three sides, and all that is on its way between them.
type world struct {
	t       *testing.T
	sides   []*party
	way     []datagram
	sent    map[uint64]datagram // packets of the tunnel by the number in their bodies: from, to by the sides' first ends
	got     map[uint64]int
	count   uint64
	numbers map[number]bool
	noise   *rand.Rand  // of what is thrown in
	log     []plane.Out // all that was told of what is not thrown in
}

// parties is how many sides a world has.
const parties = 3

// newWorld is three sides that know each other.
func newWorld(t *testing.T, keep int) *world {
	t.Helper()
	w := &world{t: t, sent: map[uint64]datagram{}, got: map[uint64]int{}, numbers: map[number]bool{}, noise: rand.New(rand.NewPCG(1, 2))}
	for n := 1; n <= parties; n++ {
		s := &party{n: n, s: vstore.New(), end: end(n)}
		for o := 1; o <= parties; o++ {
			if o != n {
				s.s.Commit(nil, []vstore.Write{{Peer: kept(o, keep)}})
			}
		}
		p, e := plane.New(secret(n), s.s, 0)
		if e != api.OK {
			t.Fatalf("New: %v", e)
		}
		s.p = p
		w.sides = append(w.sides, s)
	}
	return w
}

// fresh is a draw that never comes twice.
func (w *world) fresh() [32]byte {
	w.count++
	d := [32]byte(row(int(w.count)%9973, 32))
	n := words.Put64(w.count)
	copy(d[8:], n[:])
	return d
}

// heard takes in what a side told.
func (w *world) heard(s *party, l []plane.Out) {
	w.t.Helper()
	w.log = append(w.log, l...)
	for _, x := range l {
		switch x.Kind {
		case plane.Send:
			w.once(s, x)
			w.way = append(w.way, datagram{from: s.end, to: x.End, b: x.B})
		case plane.Deliver:
			w.came(s, x)
		case plane.Drop:
			if x.E == api.OK {
				w.t.Fatalf("%v", x)
			}
		default:
			w.t.Fatalf("%v", x)
		}
	}
}

// number is what no two messages that a side sends to another one have in common: the number of a handshake, or of a Data of one.
type number struct {
	side, to, kind   int
	sender, receiver uint32
	counter          uint64
}

// once holds that no number comes twice.
func (w *world) once(s *party, x plane.Out) {
	w.t.Helper()
	n := number{side: s.n, to: (x.End.Port - 1000) % 10}
	n.kind, _ = wire.Kind(x.B)
	switch n.kind {
	case wire.Hello, wire.Answer:
		n.sender, _ = words.Load32(x.B, 4)
		// Of both kinds together, and whomever it goes to.
		n.kind, n.to = 0, 0
	case wire.Data:
		m, _ := wire.ReadData(x.B)
		n.receiver, n.counter = m.Receiver, m.Counter
	default:
		return
	}
	if w.numbers[n] {
		w.t.Fatalf("twice: %v", n)
	}
	w.numbers[n] = true
}

// came holds that a packet that was delivered is one that was put in by the one of its slot, whose address it comes from, and came once.
func (w *world) came(s *party, x plane.Out) {
	w.t.Helper()
	head, e := inner.Read(x.B)
	n, f := words.Load64(x.B, 20)
	was, there := w.sent[n]
	if e != api.OK || f != api.OK || !there || head.Size != len(x.B) || !bytes.Equal(was.b, x.B) {
		w.t.Fatalf("packet %d: %v %v, %x, want %x", n, e, f, x.B, was.b)
	}
	k, ok := s.s.At(x.Slot)
	if o, owned := s.s.Owner(head.From); !ok || !owned || o != k || k != other(was.from.Port-1000).Public || was.to != end(s.n) {
		w.t.Fatalf("packet %d of %v to %v came to %d of slot %d", n, was.from, was.to, s.n, x.Slot)
	}
	w.got[n]++
	if w.got[n] > 1 {
		w.t.Fatalf("packet %d came %d times", n, w.got[n])
	}
}

// put puts a packet into the tunnel, to another side.
func (w *world) put(s *party, to, size int) {
	w.t.Helper()
	w.count++
	n := words.Put64(w.count)
	b := packet(w.t, inside(s.n), inside(to), append(n[:], row(int(w.count), size)...))
	w.sent[w.count] = datagram{from: end(s.n), to: end(to), b: b}
	l := s.p.Tun(b)
	for _, x := range l {
		// P29.6: what goes out goes to the one whose address it is: to the slot's end.
		if k := other(to).Public; x.Kind == plane.Send {
			if e, there := s.p.End(s.s.Slot(k)); !there || e != x.End {
				w.t.Fatalf("to %v, want %v", x.End, e)
			}
		}
	}
	w.heard(s, l)
}

// give gives what is on its way to whoever is where it goes; nobody may be there.
func (w *world) give(d datagram) {
	w.t.Helper()
	for _, s := range w.sides {
		if s.end != d.to {
			continue
		}
		before := s.ends()
		l := s.p.Udp(d.from, d.b)
		moved := 0
		for slot, e := range s.ends() {
			if e != before[slot] {
				moved++
				if e != d.from {
					w.t.Fatalf("slot %d is at %v, moved by one from %v", slot, e, d.from)
				}
			}
		}
		// P8: what does not open moves nobody.
		if moved > 1 || moved == 1 && unopened(l) {
			w.t.Fatalf("%d moved: %v", moved, l)
		}
		w.heard(s, l)
		return
	}
}

// unopened tells whether it is told that a datagram did not open.
func unopened(l []plane.Out) bool {
	if len(l) != 1 || l[0].Kind != plane.Drop {
		return false
	}
	return slices.Contains([]api.Errno{api.ErrShort, api.ErrKind, api.ErrForm, api.ErrMac, api.ErrTag, api.ErrReplay, api.ErrIndex, api.ErrStale, api.ErrKey, api.ErrNone, api.ErrRate, api.ErrLoad}, l[0].E)
}

// ends are the ends of all slots.
func (s *party) ends() [api.MaxPeers + 1]api.End {
	var out [api.MaxPeers + 1]api.End
	for slot := range out {
		out[slot], _ = s.p.End(slot)
	}
	return out
}

// tick lets the time of all sides go on.
func (w *world) tick(ms int64) {
	w.t.Helper()
	for _, s := range w.sides {
		l, e := s.p.Tick(s.p.Now() + ms)
		if e != api.OK {
			w.t.Fatalf("Tick: %v", e)
		}
		w.heard(s, l)
	}
}

// settle gives all that is on its way, in order, until nothing is, or very much was.
func (w *world) settle() {
	w.t.Helper()
	for range 400 {
		if len(w.way) == 0 {
			return
		}
		d := w.way[0]
		w.way = w.way[1:]
		w.give(d)
	}
	w.t.Fatalf("%d are on their way", len(w.way))
}

// draws fills each side's draws up.
func (w *world) draws() {
	for _, s := range w.sides {
		for s.p.Draw(w.fresh()) == api.OK {
		}
	}
}

// act does something, by chance.
func (w *world) act(x *rand.Rand) {
	w.t.Helper()
	s := w.sides[x.IntN(parties)]
	o := 1 + (s.n+x.IntN(parties-1))%parties
	switch k := x.IntN(40); {
	case k < 14:
		w.put(s, o, x.IntN(200))
	case k == 14:
		w.tick(int64(x.IntN(6000)))
	case k == 15:
		s.p.Load(x.IntN(3) == 0)
	case k == 16:
		// It moves.
		s.end = end(s.n + 10*(1+x.IntN(3)))
	case k == 17 && x.IntN(4) == 0:
		w.tick(int64(x.IntN(130000)))
	case k < 20 && len(w.way) > 0:
		i, j := x.IntN(len(w.way)), x.IntN(len(w.way))
		w.way[i], w.way[j] = w.way[j], w.way[i]
	case k < 22 && len(w.way) > 0:
		w.way = append(w.way, w.way[x.IntN(len(w.way))])
	case k == 22 && len(w.way) > 0:
		i := x.IntN(len(w.way))
		w.way = slices.Delete(w.way, i, i+1)
	case k == 23 && x.IntN(3) == 0:
		w.change(s, o, x)
	default:
		for range min(1+x.IntN(4), len(w.way)) {
			d := w.way[0]
			w.way = w.way[1:]
			w.give(d)
		}
	}
}

// change changes a side's peer, takes it away, or puts it there again.
func (w *world) change(s *party, o int, x *rand.Rand) {
	w.t.Helper()
	write := vstore.Write{Peer: kept(o, x.IntN(2)*25)}
	if _, _, there := s.s.Get(write.Peer.Public); there && x.IntN(2) == 0 {
		write = vstore.Write{Peer: record.Peer{Public: write.Peer.Public}, Gone: true}
	}
	_, events, e := s.s.Commit(nil, []vstore.Write{write})
	if e != api.OK {
		w.t.Fatalf("Commit: %v", e)
	}
	w.heard(s, s.p.Sync(events))
}

// disturb throws in what is malformed, of nobody, or was there already: it tells a Drop alone.
func (w *world) disturb() {
	w.t.Helper()
	s := w.sides[w.noise.IntN(parties)]
	from := end(50 + w.noise.IntN(3))
	var b []byte
	switch k := w.noise.IntN(7); {
	case k == 0:
		b = row(w.noise.IntN(999), w.noise.IntN(300))
	case k == 1 && len(w.way) > 0:
		b = bytes.Clone(w.way[w.noise.IntN(len(w.way))].b)
		// A digit of the last mark of a handshake would change nothing where there is no load.
		b[w.noise.IntN(len(b)-16)] ^= 1 << w.noise.IntN(8)
	case k == 2 && len(w.way) > 0:
		b = w.way[w.noise.IntN(len(w.way))].b
		b = b[:w.noise.IntN(len(b))]
	case k == 3:
		// By somebody whom nobody knows.
		_, m, _ := noise.Begin(secret(99), curve.Public(secret(s.n)), secret(98), label(w.t, 5), 1)
		b, _ = cookie.Mark(wire.WriteHello(m), curve.Public(secret(s.n)))
	case k == 4:
		b, _ = wire.WriteData(wire.DataMsg{Receiver: 1 << 30, Box: make([]byte, 32)})
	case k == 5:
		b = wire.WriteCookie(wire.CookieMsg{Receiver: w.noise.Uint32N(50)})
	default:
		told(w.t, s.p.Tun(packet(w.t, inside(s.n), addr(11, 1, 1, 1), nil)), drop(0, api.ErrRoute))
		return
	}
	l := s.p.Udp(from, b)
	if len(l) != 1 || l[0].Kind != plane.Drop {
		w.t.Fatalf("of %x: %v", b, l)
	}
}

// play does many things, by chance, and tells all that was told.
func play(t *testing.T, seed uint64) []plane.Out {
	t.Helper()
	x := rand.New(rand.NewPCG(29, seed))
	w := newWorld(t, int(seed%3)*10)
	for range 300 {
		w.draws()
		w.act(x)
	}
	return w.log
}

// P29.6, P5, P8, and the numbers of handshakes and Datas: whatever is lost, doubled, reordered, moved and changed, what is delivered was put in as it is, once, by the peer whose the address is that it comes from.
func TestNet(t *testing.T) {
	delivered := 0
	for seed := range uint64(24) {
		for _, x := range play(t, seed) {
			if x.Kind == plane.Deliver {
				delivered++
			}
		}
	}
	if delivered < 1000 {
		t.Errorf("%d delivered", delivered)
	}
}

// P29.7: what is malformed, or of nobody, changes nothing but what is told. (Without load: with it, a Hello of somebody unknown takes a draw for its cookie.)
func TestStrange(t *testing.T) {
	for seed := range uint64(8) {
		a, b := calm(t, seed, false), calm(t, seed, true)
		if len(a) != len(b) {
			t.Fatalf("%d, and %d", len(a), len(b))
		}
		for i := range a {
			if !same(a[i], b[i]) {
				t.Fatalf("%d: %v, and %v", i, a[i], b[i])
			}
		}
	}
}

// calm is play without load, with strange stuff thrown in, or without.
func calm(t *testing.T, seed uint64, strange bool) []plane.Out {
	t.Helper()
	x := rand.New(rand.NewPCG(31, seed))
	w := newWorld(t, int(seed%3)*10)
	for range 250 {
		w.draws()
		w.act(x)
		for _, s := range w.sides {
			s.p.Load(false)
		}
		if strange {
			w.disturb()
		}
	}
	return w.log
}

// P5, P3, P2: where nothing is lost, and each side hears all ahead of what it says, each packet comes, once; both sides agree, whoever begins.
func TestComes(t *testing.T) {
	for seed := range uint64(20) {
		x := rand.New(rand.NewPCG(33, seed))
		w := newWorld(t, 0)
		for range 12 {
			w.draws()
			for range 1 + x.IntN(4) {
				s := w.sides[x.IntN(parties)]
				o := 1 + (s.n+x.IntN(parties-1))%parties
				for range 1 + x.IntN(3) {
					w.put(s, o, x.IntN(1400))
				}
				w.settle()
			}
			for n := range w.sent {
				if w.got[n] != 1 {
					t.Fatalf("packet %d came %d times", n, w.got[n])
				}
			}
			w.tick(int64(x.IntN(190000)))
			w.settle()
		}
	}
}

// P3: where both begin at once both end with keys, and what waited at both comes.
func TestBothBegin(t *testing.T) {
	w := newWorld(t, 0)
	w.draws()
	for i := range 3 {
		w.put(w.sides[0], 2, 10+i)
		w.put(w.sides[1], 1, 20+i)
	}
	w.settle()
	if len(w.got) != 6 {
		t.Errorf("%d of 6 came", len(w.got))
	}
	for i, slot := range []int{1, 1} {
		if v, e := w.sides[i].p.Stat(slot); e != api.OK || v.Handshakes != 2 || !v.Ready || v.Waits != 0 {
			t.Errorf("Stat: %v %v", v, e)
		}
	}
}

// P6: under load a side hears who proved where they are, the next time; what waited comes.
func TestComesUnderLoad(t *testing.T) {
	w := newWorld(t, 0)
	w.draws()
	w.sides[1].p.Load(true)
	w.put(w.sides[0], 2, 100)
	w.settle()
	if v, _ := w.sides[0].p.Stat(1); v.Waits != 1 || v.Handshakes != 0 {
		t.Fatalf("Stat: %v", v)
	}
	// The next one has the cookie.
	w.tick(5333)
	w.settle()
	if v, _ := w.sides[0].p.Stat(1); v.Waits != 0 || v.Handshakes != 1 || len(w.got) != 1 {
		t.Fatalf("Stat: %v, %v", v, w.got)
	}
	// An Answer is asked likewise.
	w = newWorld(t, 0)
	w.draws()
	w.sides[0].p.Load(true)
	w.put(w.sides[0], 2, 100)
	w.settle()
	if v, _ := w.sides[0].p.Stat(1); v.Waits != 1 {
		t.Fatalf("Stat: %v", v)
	}
}

// P29.8: behind Removed nothing is delivered of the old keys, whatever is on its way.
func TestRemovedNet(t *testing.T) {
	w := newWorld(t, 0)
	w.draws()
	w.put(w.sides[0], 2, 10)
	w.settle()
	for range 20 {
		w.put(w.sides[0], 2, 10)
	}
	late := w.way
	w.way = nil
	s := w.sides[1]
	k := other(1).Public
	_, events, _ := s.s.Commit(nil, []vstore.Write{{Peer: record.Peer{Public: k}, Gone: true}})
	told(t, s.p.Sync(events))
	_, events, _ = s.s.Commit(nil, []vstore.Write{{Peer: other(1)}})
	told(t, s.p.Sync(events))
	if len(late) != 20 {
		t.Fatalf("%d are on their way", len(late))
	}
	for _, d := range late {
		told(t, s.p.Udp(d.from, d.b), drop(0, api.ErrIndex))
	}
	if len(w.got) != 1 {
		t.Errorf("%v", w.got)
	}
}

// P1: at all arguments, in whatever order, each call ends, and tells what may be told.
func TestAnything(t *testing.T) {
	for seed := range uint64(15) {
		x := rand.New(rand.NewPCG(35, seed))
		r := setUp(t, []int64{0, 12345, api.MaxTime - 300000}[seed%3], kept(2, 1), lost(3))
		for range 300 {
			n := 2 + x.IntN(18)
			var l []plane.Out
			switch x.IntN(10) {
			case 0:
				l = r.p.Tun(row(x.IntN(999), x.IntN(1600)))
			case 1, 2:
				l = r.p.Tun(goes(t, n, x.IntN(9), x.IntN(1400)))
			case 3:
				f := &far{t: t, n: n}
				l = r.p.Udp(end(x.IntN(40)), f.heard(int64(x.IntN(100000)), x.Uint32()))
			case 4:
				b := row(x.IntN(999), []int{148, 92, 64, 32, 48, x.IntN(1600)}[x.IntN(6)])
				copy(b, []byte{byte(1 + x.IntN(4)), 0, 0, 0, byte(x.IntN(9)), 0, 0, 0, byte(x.IntN(9)), 0, 0, 0})
				l = r.p.Udp(end(x.IntN(40)), b)
			case 5:
				// Whatever is committed is taken in, or not.
				p := []record.Peer{other(n), lost(n), kept(n, x.IntN(9))}[x.IntN(3)]
				w := vstore.Write{Peer: p}
				if x.IntN(3) == 0 {
					w = vstore.Write{Peer: record.Peer{Public: p.Public}, Gone: true}
				}
				if _, events, _ := r.s.Commit(nil, []vstore.Write{w}); x.IntN(2) == 0 {
					l = r.p.Sync(events)
				}
			case 6:
				l = r.p.Sync([]vstore.Event{{Kind: x.IntN(6) - 1, Key: other(n).Public}, {Kind: x.IntN(4), Key: other(2 + x.IntN(18)).Public, Version: x.Uint64()}})
			case 7:
				l, _ = r.p.Tick(r.p.Now() + int64(x.IntN(20000)) - 100)
			case 8:
				r.p.Draw(draw(x.IntN(9999), x.IntN(65536)))
				r.p.Load(x.IntN(3) == 0)
			case 9:
				l, _ = r.p.Tick(int64(x.Uint64()) >> x.IntN(64))
			}
			for _, o := range l {
				if o.Kind < plane.Send || o.Kind > plane.Drop || (o.Kind == plane.Drop) != (o.E != api.OK) || (o.Kind == plane.Send) != (o.End != api.End{}) || o.Slot < 0 || o.Slot > api.MaxPeers || o.Kind == plane.Send && o.Slot != 0 || (o.Kind == plane.Drop) != (len(o.B) == 0) {
					t.Fatalf("told %v", o)
				}
			}
			r.p.Stat(x.IntN(20) - 1)
			r.p.End(x.IntN(20) - 1)
		}
	}
}
