package plane_test

import (
	"bytes"
	"math"
	"reflect"
	"slices"
	"testing"

	"adit/aead"
	"adit/api"
	"adit/cookie"
	"adit/curve"
	"adit/gauge"
	"adit/inner"
	"adit/noise"
	"adit/plane"
	"adit/record"
	"adit/stamp"
	"adit/vstore"
	"adit/wire"
)

// row is n ordinary bytes, unlike for each seed.
func row(seed, n int) []byte {
	out := make([]byte, n)
	for i := range out {
		out[i] = byte((seed+3)*(i+5)*(i+seed+11)/3 + seed)
	}
	return out
}

// secret is an ordinary secret, unlike for each seed.
func secret(seed int) api.Key { return api.Key(row(seed, 32)) }

// draw is an ordinary draw, unlike for each seed, whose last two bytes are a number.
func draw(seed, last int) [32]byte {
	d := [32]byte(row(1000+seed, 32))
	d[30], d[31] = byte(last>>8), byte(last)
	return d
}

// addr is an address of IPv4.
func addr(a, b, c, d byte) api.Addr { return api.Addr{B: [16]byte{a, b, c, d}} }

// inside is an address in the tunnel, of those of a number.
func inside(n int) api.Addr { return addr(10, byte(n), 0, 1) }

// end is an end, unlike for each number.
func end(n int) api.End { return api.End{Addr: addr(192, 0, 2, byte(n)), Port: 1000 + n} }

// route is the prefix of the addresses in the tunnel of a number.
func route(n int) api.Prefix { return api.Prefix{Addr: addr(10, byte(n), 0, 0), Bits: 16} }

// other is the other side's peer as a store has it, with a secret, an end and a route of a number.
func other(n int) record.Peer {
	return record.Peer{Public: curve.Public(secret(n)), HasEnd: true, End: end(n), Routes: []api.Prefix{route(n)}}
}

// kept is one that wants to hear each so many seconds.
func kept(n, seconds int) record.Peer {
	p := other(n)
	p.Keep = seconds
	return p
}

// lost is one without an end.
func lost(n int) record.Peer {
	p := other(n)
	p.HasEnd, p.End = false, api.End{}
	return p
}

// me is the number of the plane's side.
const me = 1

// rig is a plane of the secret me, its store, and how many draws it was handed.
type rig struct {
	t     *testing.T
	p     *plane.Plane
	s     *vstore.Store
	drawn int
}

// setUp is a plane at a time, with peers that are there from the beginning on.
func setUp(t *testing.T, at int64, peers ...record.Peer) *rig {
	t.Helper()
	r := &rig{t: t, s: vstore.New()}
	for _, p := range peers {
		r.put(p)
	}
	p, e := plane.New(secret(me), r.s, at)
	if e != api.OK {
		t.Fatalf("New: %v", e)
	}
	r.p = p
	return r
}

// commit is the events of a commit.
func (r *rig) commit(l ...vstore.Write) []vstore.Event {
	r.t.Helper()
	_, events, e := r.s.Commit(nil, l)
	if e != api.OK {
		r.t.Fatalf("Commit: %v", e)
	}
	return events
}

// put puts a peer, and tells the events.
func (r *rig) put(p record.Peer) []vstore.Event {
	r.t.Helper()
	return r.commit(vstore.Write{Peer: p})
}

// remove takes a peer away, and tells the events.
func (r *rig) remove(n int) []vstore.Event {
	r.t.Helper()
	return r.commit(vstore.Write{Peer: record.Peer{Public: other(n).Public}, Gone: true})
}

// draws lets as many draws wait, without a number in their last two bytes.
func (r *rig) draws(n int) {
	r.t.Helper()
	for range n {
		r.late(0)
	}
}

// late lets a draw wait whose last two bytes are a number.
func (r *rig) late(last int) [32]byte {
	r.t.Helper()
	d := draw(r.drawn, last)
	r.drawn++
	if e := r.p.Draw(d); e != api.OK {
		r.t.Fatalf("Draw: %v", e)
	}
	return d
}

// tick lets the time go on to a time, in as many steps as it needs.
func (r *rig) tick(to int64) []plane.Out {
	r.t.Helper()
	var out []plane.Out
	for {
		next := min(r.p.Now()+200000, to)
		l, e := r.p.Tick(next)
		if e != api.OK || cap(l) != len(l) {
			r.t.Fatalf("Tick(%d) at %d: %v, %d (room for %d)", next, r.p.Now(), e, len(l), cap(l))
		}
		out = append(out, l...)
		if next == to {
			return slices.Clip(out)
		}
	}
}

// quiet lets the time go on, and holds that nothing is told.
func (r *rig) quiet(to int64) {
	r.t.Helper()
	told(r.t, r.tick(to))
}

// stat is what is counted of a slot.
func (r *rig) stat(slot int) plane.Stat {
	r.t.Helper()
	v, e := r.p.Stat(slot)
	if e != api.OK {
		r.t.Fatalf("Stat(%d): %v", slot, e)
	}
	return v
}

// ends holds that a slot has an end.
func (r *rig) ends(slot int, want api.End) {
	r.t.Helper()
	if got, there := r.p.End(slot); !there || got != want {
		r.t.Fatalf("End(%d): %v %v, want %v", slot, got, there, want)
	}
}

// noEnd holds that a slot has none.
func (r *rig) noEnd(slot int) {
	r.t.Helper()
	if got, there := r.p.End(slot); there || got != (api.End{}) {
		r.t.Fatalf("End(%d): %v %v", slot, got, there)
	}
}

// noStat holds that there is no peer of a slot.
func (r *rig) noStat(slot int) {
	r.t.Helper()
	if v, e := r.p.Stat(slot); e != api.ErrNone || v != (plane.Stat{}) {
		r.t.Fatalf("Stat(%d): %v %v", slot, v, e)
	}
	r.noEnd(slot)
}

// drop tells that something was thrown away.
func drop(slot int, e api.Errno) plane.Out { return plane.Out{Kind: plane.Drop, Slot: slot, E: e} }

// send tells that bytes go to an end.
func send(to api.End, b []byte) plane.Out { return plane.Out{Kind: plane.Send, End: to, B: b} }

// deliver tells that a packet of a slot came.
func deliver(slot int, b []byte) plane.Out {
	return plane.Out{Kind: plane.Deliver, Slot: slot, B: b}
}

// same tells whether the same is told.
func same(a, b plane.Out) bool {
	return a.Kind == b.Kind && a.End == b.End && a.Slot == b.Slot && a.E == b.E && bytes.Equal(a.B, b.B)
}

// told holds that just this is told.
func told(t *testing.T, got []plane.Out, want ...plane.Out) {
	t.Helper()
	for i, x := range got {
		if i >= len(want) || !same(x, want[i]) {
			t.Fatalf("told %v\nwant %v", got, want)
		}
	}
	if len(got) != len(want) || cap(got) != len(got) {
		t.Fatalf("told %v (room for %d)\nwant %v", got, cap(got), want)
	}
}

// packet is a packet in the tunnel with a body.
func packet(t *testing.T, from, to api.Addr, body []byte) []byte {
	t.Helper()
	b, e := inner.Write(from, to, body)
	if e != api.OK {
		t.Fatalf("Write: %v", e)
	}
	return b
}

// goes is a packet from the plane's side to the other one of a number.
func goes(t *testing.T, n, seed, size int) []byte {
	t.Helper()
	return packet(t, inside(me), inside(n), row(seed, size))
}

// comes is a packet from the other side of a number to the plane's.
func comes(t *testing.T, n, seed, size int) []byte {
	t.Helper()
	return packet(t, inside(n), inside(me), row(seed, size))
}

// label is a time's label.
func label(t *testing.T, at int64) [12]byte {
	t.Helper()
	l, e := stamp.Write(at)
	if e != api.OK {
		t.Fatalf("Write(%d): %v", at, e)
	}
	return l
}

// mark marks a handshake's bytes.
func mark(t *testing.T, b []byte, public api.Key) []byte {
	t.Helper()
	out, e := cookie.Mark(b, public)
	if e != api.OK {
		t.Fatalf("Mark: %v", e)
	}
	return out
}

// markBoth marks them with a cookie, too.
func markBoth(t *testing.T, b []byte, public api.Key, proof [16]byte) []byte {
	t.Helper()
	out, e := cookie.MarkBoth(b, public, proof)
	if e != api.OK {
		t.Fatalf("MarkBoth: %v", e)
	}
	return out
}

// bareHello is the plane's Hello to the other side of a number, without marks.
func bareHello(t *testing.T, n int, fresh [32]byte, at int64, number uint32) []byte {
	t.Helper()
	_, m, e := noise.Begin(secret(me), curve.Public(secret(n)), fresh, label(t, at), number)
	if e != api.OK {
		t.Fatalf("Begin: %v", e)
	}
	return wire.WriteHello(m)
}

// hello is what is told of a Hello that the plane sends to the other side of a number, at its first end.
func hello(t *testing.T, n int, fresh [32]byte, at int64, number uint32) plane.Out {
	t.Helper()
	return send(end(n), mark(t, bareHello(t, n, fresh, at, number), curve.Public(secret(n))))
}

// far is the other side of a number, as it talks to the plane: by what the layers below tell, without a plane of its own.
type far struct {
	t         *testing.T
	n         int
	shared    api.Key
	keys      noise.Keys
	sealed    uint64
	lastLabel int64
}

// answer is the far side's Answer to a Hello of the plane, which agrees on keys.
func (f *far) answer(b []byte, number uint32) []byte {
	f.t.Helper()
	m, e := wire.ReadHello(b)
	if e != api.OK {
		f.t.Fatalf("ReadHello: %v", e)
	}
	state, _, e := noise.Hear(secret(f.n), m)
	if e != api.OK || state.Other != curve.Public(secret(me)) {
		f.t.Fatalf("Hear: %v", e)
	}
	keys, a, e := noise.Reply(state, f.shared, secret(500+int(number)), number)
	if e != api.OK {
		f.t.Fatalf("Reply: %v", e)
	}
	f.keys, f.sealed = keys, 0
	return mark(f.t, wire.WriteAnswer(a), curve.Public(secret(me)))
}

// hello is the far side's Hello of a time, not yet marked, and its state.
func (f *far) hello(at int64, number uint32) ([]byte, noise.State) {
	f.t.Helper()
	state, m, e := noise.Begin(secret(f.n), curve.Public(secret(me)), secret(600+int(number)), label(f.t, at), number)
	if e != api.OK {
		f.t.Fatalf("Begin: %v", e)
	}
	return wire.WriteHello(m), state
}

// finish hears the plane's Answer.
func (f *far) finish(state noise.State, b []byte) {
	f.t.Helper()
	m, e := wire.ReadAnswer(b)
	if e != api.OK {
		f.t.Fatalf("ReadAnswer: %v", e)
	}
	keys, e := noise.Finish(state, secret(f.n), f.shared, m)
	if e != api.OK {
		f.t.Fatalf("Finish: %v", e)
	}
	f.keys, f.sealed = keys, 0
}

// data is a Data of a number with any text.
func data(t *testing.T, key api.Key, receiver uint32, n uint64, text []byte) []byte {
	t.Helper()
	box, _ := aead.Seal(key, aead.Counter(n), text, nil)
	b, e := wire.WriteData(wire.DataMsg{Receiver: receiver, Counter: n, Box: box})
	if e != api.OK {
		t.Fatalf("WriteData: %v", e)
	}
	return b
}

// fill fills a packet up.
func fill(t *testing.T, b []byte) []byte {
	t.Helper()
	out, e := inner.Fill(b)
	if e != api.OK {
		t.Fatalf("Fill: %v", e)
	}
	return out
}

// seal is the far side's next Data, of any text.
func (f *far) seal(text []byte) []byte {
	f.t.Helper()
	b := data(f.t, f.keys.Send, f.keys.Remote, f.sealed, text)
	f.sealed++
	return b
}

// passed is the plane's Data of a number, with a packet, as the far side gets it.
func (f *far) passed(n uint64, b []byte) []byte {
	f.t.Helper()
	return data(f.t, f.keys.Receive, f.keys.Local, n, fill(f.t, b))
}

// began is a plane at a time that has keys which it began with, of the other side 2 in slot 1; the timer of kind 3 is not set, and a packet of no bytes was passed on.
func began(t *testing.T, at int64) (*rig, *far) {
	t.Helper()
	r := setUp(t, at, other(2))
	f := &far{t: t, n: 2}
	r.draws(1)
	l := r.p.Tun(goes(t, 2, 0, 0))
	if len(l) != 1 || l[0].Kind != plane.Send {
		t.Fatalf("Tun: %v", l)
	}
	told(t, r.p.Udp(end(2), f.answer(l[0].B, 77)), send(end(2), f.passed(0, goes(t, 2, 0, 0))))
	return r, f
}

// answered is a plane at a time that has keys which the other side 2 began with, of slot 1; with nothing sealed yet.
func answered(t *testing.T, at int64) (*rig, *far) {
	t.Helper()
	r := setUp(t, at, other(2))
	f := &far{t: t, n: 2}
	r.draws(1)
	b, state := f.hello(1, 77)
	l := r.p.Udp(end(2), mark(t, b, curve.Public(secret(me))))
	if len(l) != 1 || l[0].Kind != plane.Send {
		t.Fatalf("Udp: %v", l)
	}
	f.finish(state, l[0].B)
	return r, f
}

// noTimes are numbers that are no times.
func noTimes() []int64 {
	return []int64{-1, -2, -200000, math.MinInt64, math.MinInt64 + 1, api.MaxTime + 1, api.MaxTime + 200001, math.MaxInt64}
}

// The chapter's example.
func TestExample(t *testing.T) {
	told(t, setUp(t, 0).p.Tun(goes(t, 2, 0, 0)), drop(0, api.ErrRoute))
	told(t, setUp(t, 0, other(2)).p.Tun(goes(t, 3, 0, 0)), drop(0, api.ErrRoute))
}

// The kinds of what is told.
func TestKinds(t *testing.T) {
	if plane.Send != 1 || plane.Deliver != 2 || plane.Drop != 3 {
		t.Errorf("%d %d %d", plane.Send, plane.Deliver, plane.Drop)
	}
}

// P29.1: New.
func TestNew(t *testing.T) {
	for _, at := range []int64{0, 1, 12345, api.MaxTime - 1, api.MaxTime} {
		p, e := plane.New(secret(me), vstore.New(), at)
		if e != api.OK || p.Now() != at || p.Public() != curve.Public(secret(me)) {
			t.Errorf("New at %d: %v %d %v", at, e, p.Now(), p.Public())
		}
	}
	for _, s := range []*vstore.Store{nil, {}} {
		for _, at := range append(noTimes(), 0) {
			if p, e := plane.New(secret(me), s, at); p != nil || e != api.ErrNil {
				t.Errorf("New of %v at %d: %v %v", s, at, p, e)
			}
		}
	}
	for _, at := range noTimes() {
		if p, e := plane.New(secret(me), vstore.New(), at); p != nil || e != api.ErrArg {
			t.Errorf("New at %d: %v %v", at, p, e)
		}
	}
}

// P29.1: the peers that are there are as if they had been Added: their ends, and the timer of kind 3, at once.
func TestNewPeers(t *testing.T) {
	at := int64(5000)
	r := setUp(t, at, kept(2, 30), lost(3), other(4))
	r.ends(1, end(2))
	r.noEnd(2)
	r.ends(3, end(4))
	for slot := 1; slot <= 3; slot++ {
		if v := r.stat(slot); v != (plane.Stat{Last: -1}) {
			t.Errorf("Stat(%d): %v", slot, v)
		}
	}
	for _, slot := range []int{0, 4, 5, 16, 17, 18, -1, math.MinInt, math.MaxInt} {
		r.noStat(slot)
	}
	d := r.late(0)
	told(t, r.tick(at), hello(t, 2, d, at, 1))
	told(t, r.tick(at))
}

// P29.1, P29.2: a peer in each slot, from the first to the last one.
func TestAllSlots(t *testing.T) {
	r := setUp(t, 0)
	for n := 2; n < 2+api.MaxPeers; n++ {
		told(t, r.p.Sync(r.put(other(n))))
	}
	for slot := 1; slot <= api.MaxPeers; slot++ {
		r.ends(slot, end(1+slot))
		d := r.late(0)
		told(t, r.p.Tun(goes(t, 1+slot, 0, 0)), hello(t, 1+slot, d, 0, uint32(slot)))
		if v := r.stat(slot); v != (plane.Stat{Last: -1, Waits: 1}) {
			t.Errorf("Stat(%d): %v", slot, v)
		}
	}
	r.noStat(0)
	r.noStat(api.MaxPeers + 1)
	var want []plane.Out
	for slot := 1; slot <= api.MaxPeers; slot++ {
		want = append(want, hello(t, 1+slot, r.late(0), 5000, uint32(api.MaxPeers+slot)))
	}
	told(t, r.tick(5000), want...)
	// P29.5: what is told of several events, in their order.
	var events []vstore.Event
	want = nil
	for _, n := range []int{9, 2, 17, 5} {
		events = append(events, r.remove(n)...)
		want = append(want, drop(n-1, api.ErrKey))
		events = append(events, r.put(lost(n))...)
	}
	told(t, r.p.Sync(events), want...)
	for _, slot := range []int{8, 1, 16, 4} {
		r.noEnd(slot)
	}
}

// P29.1: a plane that is nil, or that no call made.
func TestNil(t *testing.T) {
	for _, p := range []*plane.Plane{nil, {}} {
		if e := p.Draw([32]byte{}); e != api.ErrNil {
			t.Errorf("Draw: %v", e)
		}
		p.Load(true)
		p.Load(false)
		if p.Now() != 0 || p.Public() != (api.Key{}) {
			t.Errorf("Now, Public: %v %v", p.Now(), p.Public())
		}
		told(t, p.Tun(goes(t, 2, 0, 0)))
		told(t, p.Tun(nil))
		told(t, p.Udp(end(2), []byte{1, 2, 3, 4}))
		told(t, p.Udp(api.End{}, nil))
		told(t, p.Sync([]vstore.Event{{Kind: vstore.Added}, {Kind: vstore.Changed}, {Kind: vstore.Removed}}))
		for _, at := range append(noTimes(), 0) {
			if l, e := p.Tick(at); e != api.ErrNil || len(l) != 0 {
				t.Errorf("Tick: %v %v", l, e)
			}
		}
		for _, slot := range []int{-1, 0, 1, 17} {
			if v, e := p.Stat(slot); e != api.ErrNil || v != (plane.Stat{}) {
				t.Errorf("Stat: %v %v", v, e)
			}
			if x, there := p.End(slot); there || x != (api.End{}) {
				t.Errorf("End: %v %v", x, there)
			}
		}
	}
}

// P1: a plane that is copied by its value ends each call.
func TestCopied(t *testing.T) {
	r, f := began(t, 0)
	c := *r.p
	told(t, r.p.Sync(r.put(kept(3, 1))))
	for _, x := range r.p.Sync(r.remove(2)) {
		t.Errorf("Sync: %v", x)
	}
	for _, p := range []*plane.Plane{&c, r.p} {
		for i := range 80 {
			p.Draw(draw(2000+i, i))
		}
		p.Tick(p.Now() + 100000)
		p.Tun(goes(t, 2, 1, 5))
		p.Tun(goes(t, 3, 1, 5))
		p.Udp(end(2), f.seal(fill(t, comes(t, 2, 1, 5))))
		p.Sync(r.put(other(2)))
		p.Stat(1)
		p.End(1)
		p.Tick(p.Now() + 100000)
	}
}

// P29.1: 64 draws wait, one more does not; they are taken one by one, the first one first.
func TestDraw(t *testing.T) {
	r := setUp(t, 0, other(2), other(3), other(4))
	var l [][32]byte
	for range 64 {
		l = append(l, r.late(0))
	}
	for range 2 {
		if e := r.p.Draw(draw(999, 0)); e != api.ErrFull {
			t.Fatalf("Draw: %v", e)
		}
	}
	told(t, r.p.Tun(goes(t, 2, 0, 0)), hello(t, 2, l[0], 0, 1))
	l = append(l, r.late(0))
	if e := r.p.Draw(draw(999, 0)); e != api.ErrFull {
		t.Fatalf("Draw: %v", e)
	}
	told(t, r.p.Tun(goes(t, 3, 0, 0)), hello(t, 3, l[1], 0, 2))
	// All that wait are taken in turn: of three sides one Hello each 5000 milliseconds.
	number := uint32(3)
	told(t, r.p.Tun(goes(t, 4, 0, 0)), hello(t, 4, l[2], 0, 3))
	for at := int64(5000); number < 60; at += 5000 {
		if at%90000 == 0 {
			told(t, r.tick(at), drop(1, api.ErrOld), drop(2, api.ErrOld), drop(3, api.ErrOld))
			for n := 2; n <= 4; n++ {
				told(t, r.p.Tun(goes(t, n, 0, 0)), hello(t, n, l[number], at, number+1))
				number++
			}
			continue
		}
		told(t, r.tick(at), hello(t, 2, l[number], at, number+1), hello(t, 3, l[number+1], at, number+2), hello(t, 4, l[number+2], at, number+3))
		number += 3
	}
}

// P29.1: what is counted of a slot: Tx and Rx, handshakes, sizes, each of its own slot.
func TestStat(t *testing.T) {
	r, f := began(t, 100)
	// The handshake was begun with a packet of 20 bytes, which was passed on.
	want := plane.Stat{Tx: 20, Handshakes: 1, Last: 100, Ready: true}
	check := func() {
		t.Helper()
		if got := r.stat(1); got != want {
			t.Fatalf("Stat: %v, want %v", got, want)
		}
	}
	check()
	r.quiet(200)
	b := goes(t, 2, 1, 13)
	told(t, r.p.Tun(append(b[:len(b):len(b)], 1, 2, 3)), send(end(2), f.passed(1, b)))
	want.Tx += 33
	check()
	for i, size := range []int{100, 7, 300, 20} {
		b := comes(t, 2, i, size)
		told(t, r.p.Udp(end(2), f.seal(fill(t, b))), deliver(1, b))
		want.Rx += uint64(len(fill(t, b)))
		want.Sizes = want.Sizes.Note(float64(len(b)))
		check()
	}
	if want.Sizes.Count != 4 || want.Sizes.Low != 27 || want.Sizes.High != 320 || want.Rx != 128+32+320+48 {
		t.Errorf("%v", want)
	}
	// Of no bytes, of a wrong header, and of a wrong source: all came, none was delivered.
	told(t, r.p.Udp(end(2), f.seal(nil)))
	check()
	told(t, r.p.Udp(end(2), f.seal(make([]byte, 16))), drop(1, api.ErrHeader))
	want.Rx += 16
	check()
	told(t, r.p.Udp(end(2), f.seal(fill(t, comes(t, 3, 1, 12)))), drop(1, api.ErrSource))
	want.Rx += 32
	check()
	// One that does not come about is not counted; one that is answered is.
	r.quiet(300)
	r.draws(2)
	hb, _ := f.hello(50, 78)
	told(t, r.p.Udp(end(2), hb), drop(0, api.ErrMac))
	check()
	if l := r.p.Udp(end(2), mark(t, hb, r.p.Public())); len(l) != 1 || l[0].Kind != plane.Send {
		t.Fatalf("Udp: %v", l)
	}
	want.Handshakes, want.Last = 2, 300
	check()
	told(t, r.p.Sync(r.put(other(3))))
	if got := r.stat(2); got != (plane.Stat{Last: -1}) {
		t.Errorf("Stat(2): %v", got)
	}
	check()
}

// P29.1: how many packets wait, and Ready.
func TestStatWaits(t *testing.T) {
	r := setUp(t, 0, other(2), other(3))
	for i := 1; i <= 10; i++ {
		r.p.Tun(goes(t, 3, i, i))
		if got, want := r.stat(2), (plane.Stat{Last: -1, Waits: min(i, 8)}); got != want {
			t.Errorf("Stat: %v, want %v", got, want)
		}
		if got := r.stat(1); got != (plane.Stat{Last: -1}) {
			t.Errorf("Stat: %v", got)
		}
	}
	r, _ = began(t, 0)
	r.quiet(179999)
	if v := r.stat(1); !v.Ready {
		t.Errorf("Stat: %v", v)
	}
	r.quiet(180000)
	if v := r.stat(1); v != (plane.Stat{Tx: 20, Handshakes: 1}) {
		t.Errorf("Stat: %v", v)
	}
	r, _ = answered(t, 0)
	if v := r.stat(1); v != (plane.Stat{Handshakes: 1}) {
		t.Errorf("Stat: %v", v)
	}
}

// P29.2: Tun's errors, in order.
func TestTunErrors(t *testing.T) {
	r := setUp(t, 0, other(2))
	r.draws(1)
	long := make([]byte, api.MaxPacket+1)
	copy(long, goes(t, 2, 0, 20))
	full := goes(t, 2, 0, api.MaxPacket-20)
	wrong := goes(t, 2, 0, 0)
	wrong[10]++
	for _, c := range []struct {
		b    []byte
		want api.Errno
	}{
		{long, api.ErrLong}, {make([]byte, api.MaxPacket+1), api.ErrLong}, {make([]byte, 1<<20), api.ErrLong},
		{nil, api.ErrShort}, {[]byte{}, api.ErrShort}, {[]byte{0x45}, api.ErrShort}, {[]byte{0x60}, api.ErrShort}, {goes(t, 2, 0, 0)[:19], api.ErrShort},
		{[]byte{0}, api.ErrHeader}, {make([]byte, api.MaxPacket), api.ErrHeader}, {wrong, api.ErrHeader}, {full[:len(full)-1], api.ErrHeader},
		{goes(t, 3, 0, 0), api.ErrRoute}, {packet(t, inside(2), inside(1), nil), api.ErrRoute},
		{packet(t, api.Addr{Six: true}, api.Addr{Six: true, B: [16]byte{10, 2, 0, 1}}, nil), api.ErrRoute},
	} {
		told(t, r.p.Tun(c.b), drop(0, c.want))
	}
	if v := r.stat(1); v != (plane.Stat{Last: -1}) {
		t.Errorf("Stat: %v", v)
	}
	// The longest one, and one that is filled up to the most bytes, are none of these.
	told(t, r.p.Tun(full), hello(t, 2, draw(0, 0), 0, 1))
	told(t, r.p.Tun(long[:api.MaxPacket]))
	if v := r.stat(1); v != (plane.Stat{Last: -1, Waits: 2}) {
		t.Errorf("Stat: %v", v)
	}
}

// P29.2: nobody has a packet's address whose peer no event was taken in of, or that is there no more.
func TestTunUnknown(t *testing.T) {
	r := setUp(t, 0)
	added := r.put(other(2))
	r.draws(1)
	told(t, r.p.Tun(goes(t, 2, 0, 0)), drop(0, api.ErrRoute))
	r.noStat(1)
	told(t, r.p.Sync(added))
	told(t, r.p.Tun(goes(t, 2, 0, 0)), hello(t, 2, draw(0, 0), 0, 1))
	removed := r.remove(2)
	told(t, r.p.Tun(goes(t, 2, 0, 0)), drop(0, api.ErrRoute))
	told(t, r.p.Sync(removed), drop(1, api.ErrKey))
	told(t, r.p.Tun(goes(t, 2, 0, 0)), drop(0, api.ErrRoute))
}

// P29.2, P4: a packet goes to the one of the longest prefix that holds its address, as the store has it.
func TestTunLongest(t *testing.T) {
	wide, narrow := other(2), other(3)
	wide.Routes = []api.Prefix{{Addr: addr(10, 0, 0, 0), Bits: 8}}
	narrow.Routes = []api.Prefix{{Addr: addr(10, 5, 0, 0), Bits: 16}}
	r := setUp(t, 0, wide, narrow)
	r.draws(4)
	told(t, r.p.Tun(goes(t, 5, 0, 0)), hello(t, 3, draw(0, 0), 0, 1))
	told(t, r.p.Tun(goes(t, 6, 0, 0)), hello(t, 2, draw(1, 0), 0, 2))
	// The route goes to another one: at once.
	wide.Routes = []api.Prefix{{Addr: addr(10, 0, 0, 0), Bits: 8}, {Addr: addr(10, 5, 0, 0), Bits: 16}}
	events := r.put(wide)
	if len(events) != 2 {
		t.Fatalf("Commit: %v", events)
	}
	told(t, r.p.Tun(goes(t, 5, 0, 0)))
	if a, b := r.stat(1).Waits, r.stat(2).Waits; a != 2 || b != 1 {
		t.Errorf("Waits: %d %d", a, b)
	}
	told(t, r.p.Sync(events))
	told(t, r.p.Tun(goes(t, 5, 0, 0)))
	if a, b := r.stat(1).Waits, r.stat(2).Waits; a != 3 || b != 1 {
		t.Errorf("Waits: %d %d", a, b)
	}
}

// P29.2: packets of IPv6 go likewise.
func TestTunSix(t *testing.T) {
	six := func(n byte) api.Addr { return api.Addr{Six: true, B: [16]byte{0x20, 1, 13: n}} }
	p := other(2)
	p.Routes = []api.Prefix{{Addr: six(2), Bits: 112}}
	r := setUp(t, 0, p)
	d := r.late(0)
	b := packet(t, six(1), six(2), row(5, 50))
	told(t, r.p.Tun(packet(t, six(2), six(1), nil)), drop(0, api.ErrRoute))
	told(t, r.p.Tun(b), hello(t, 2, d, 0, 1))
	f := &far{t: t, n: 2}
	sent := hello(t, 2, d, 0, 1)
	told(t, r.p.Udp(end(2), f.answer(sent.B, 7)), send(end(2), f.passed(0, b)))
	back := packet(t, six(2), six(1), row(6, 61))
	told(t, r.p.Udp(end(2), f.seal(fill(t, back))), deliver(1, back))
}

// P29.2: where there are no keys a packet waits; the first one begins a handshake, the others do not.
func TestTunWaits(t *testing.T) {
	r := setUp(t, 7000, other(2))
	d := r.late(0)
	r.draws(1)
	f := &far{t: t, n: 2}
	first := hello(t, 2, d, 7000, 1)
	var l [][]byte
	var want []plane.Out
	for i := range 11 {
		b := goes(t, 2, i, 30+i)
		l = append(l, b)
		got := r.p.Tun(append(b[:len(b):len(b)], 9, 9))
		switch {
		case i == 0:
			told(t, got, first)
		case i < 8:
			told(t, got)
		default:
			told(t, got, drop(1, api.ErrFull))
		}
		if i == 5 {
			r.quiet(11999)
		}
	}
	answer := f.answer(first.B, 8)
	for i, b := range l[3:] {
		want = append(want, send(end(2), f.passed(uint64(i), b)))
	}
	// All that wait are passed on, cut, in order, once.
	told(t, r.p.Udp(end(2), answer), want...)
	if v := r.stat(1); v.Waits != 0 || v.Tx != 8*20+33+34+35+36+37+38+39+40 {
		t.Errorf("Stat: %v", v)
	}
	told(t, r.p.Tun(l[0]), send(end(2), f.passed(8, l[0])))
}

// P29.2: where there is a handshake already none is begun, also where RekeyTimeout has gone by.
func TestTunTried(t *testing.T) {
	r := setUp(t, 0, other(2))
	d := r.late(300)
	told(t, r.p.Tun(goes(t, 2, 0, 0)), hello(t, 2, d, 0, 1))
	d = r.late(0)
	for _, at := range []int64{4999, 5000, 5001, 5299} {
		r.quiet(at)
		told(t, r.p.Tun(goes(t, 2, 0, 0)))
	}
	told(t, r.tick(5300), hello(t, 2, d, 5300, 2))
}

// P29.2: where one is thrown away for it, that is told ahead of what beginning tells.
func TestTunFullFirst(t *testing.T) {
	r := setUp(t, 0, other(2))
	for range 8 {
		told(t, r.p.Tun(goes(t, 2, 0, 0)), drop(1, api.ErrNone))
	}
	told(t, r.p.Tun(goes(t, 2, 0, 0)), drop(1, api.ErrFull), drop(1, api.ErrNone))
	d := r.late(0)
	told(t, r.p.Tun(goes(t, 2, 0, 0)), drop(1, api.ErrFull), hello(t, 2, d, 0, 1))
}

// P29.2: where there are keys a packet is passed on, cut and filled, each with the next number.
func TestTunReady(t *testing.T) {
	r, f := began(t, 0)
	for i, size := range []int{0, 1, 11, 12, 13, 28, 100, 1476, 1480} {
		b := goes(t, 2, i, size)
		given := bytes.Clone(b)
		if room := api.MaxPacket - len(b); room > 0 {
			given = append(given, row(i, min(room, 21))...)
		}
		before := bytes.Clone(given)
		got := r.p.Tun(given)
		told(t, got, send(end(2), f.passed(uint64(i+1), b)))
		if !bytes.Equal(given, before) || cap(got[0].B) != len(got[0].B) {
			t.Errorf("given %x, want %x; room %d", given, before, cap(got[0].B))
		}
	}
}

// P29.2, P28.4: keys that the other side began with are not sealed with until it has.
func TestTunAnswered(t *testing.T) {
	r, f := answered(t, 0)
	d := r.late(0)
	b := goes(t, 2, 4, 40)
	told(t, r.p.Tun(b), hello(t, 2, d, 0, 2))
	in := comes(t, 2, 5, 50)
	// The first packet of theirs lets this side's go, ahead of what is delivered.
	told(t, r.p.Udp(end(2), f.seal(fill(t, in))), send(end(2), f.passed(0, b)), deliver(1, in))
	if v := r.stat(1); !v.Ready || v.Waits != 0 {
		t.Errorf("Stat: %v", v)
	}
	told(t, r.p.Tun(b), send(end(2), f.passed(1, b)))
}

// P29.5: Removed: all of the slot is forgotten, and what waited is thrown away.
func TestRemoved(t *testing.T) {
	r, f := began(t, 0)
	told(t, r.p.Sync(r.put(other(3))))
	r.draws(1)
	told(t, r.p.Tun(goes(t, 3, 0, 0)), hello(t, 3, draw(1, 0), 0, 2))
	in := fill(t, comes(t, 2, 0, 0))
	first := f.seal(in)
	told(t, r.p.Udp(end(9), first), deliver(1, in[:20]))
	// P29.8: of the old keys nothing is delivered any more, and no timer is due.
	told(t, r.p.Sync(r.remove(2)))
	r.noStat(1)
	told(t, r.p.Udp(end(9), f.seal(in)), drop(0, api.ErrIndex))
	told(t, r.p.Tun(goes(t, 2, 0, 0)), drop(0, api.ErrRoute))
	// The other one is as it was.
	r.ends(2, end(3))
	if v := r.stat(2); v != (plane.Stat{Last: -1, Waits: 1}) {
		t.Errorf("Stat: %v", v)
	}
	told(t, r.p.Sync(r.remove(3)), drop(2, api.ErrKey))
	r.noStat(2)
	r.quiet(199999)
	// It comes again: as a new one.
	told(t, r.p.Sync(r.put(other(2))))
	r.ends(1, end(2))
	if v := r.stat(1); v != (plane.Stat{Last: -1}) {
		t.Errorf("Stat: %v", v)
	}
	told(t, r.p.Udp(end(9), f.seal(in)), drop(0, api.ErrIndex))
	told(t, r.p.Udp(end(9), first), drop(0, api.ErrIndex))
}

// P29.5: the handshake that was begun, the last Hellos, the cookie and timers are forgotten with the slot.
func TestRemovedAll(t *testing.T) {
	r := setUp(t, 0, kept(2, 9))
	f := &far{t: t, n: 2}
	d := []([32]byte){r.late(0), r.late(0), r.late(0), r.late(0)}
	told(t, r.tick(0), hello(t, 2, d[0], 0, 1))
	heard, _ := f.hello(500, 3)
	heard = mark(t, heard, r.p.Public())
	l := r.p.Udp(end(2), heard)
	if len(l) != 1 || l[0].Kind != plane.Send {
		t.Fatalf("Udp: %v", l)
	}
	// A cookie, that marks what comes behind it.
	m, _ := cookie.Tell(hello(t, 2, d[0], 0, 1).B, other(2).Public, [24]byte{5}, [16]byte{6})
	told(t, r.p.Udp(end(2), wire.WriteCookie(m)))
	told(t, r.p.Sync(r.remove(2)))
	told(t, r.p.Udp(end(2), wire.WriteCookie(m)), drop(0, api.ErrIndex))
	told(t, r.p.Udp(end(2), f.answer(hello(t, 2, d[0], 0, 1).B, 9)), drop(0, api.ErrIndex))
	told(t, r.p.Sync(r.put(other(2))))
	told(t, r.p.Udp(end(2), wire.WriteCookie(m)), drop(0, api.ErrIndex))
	told(t, r.p.Udp(end(2), f.answer(hello(t, 2, d[0], 0, 1).B, 9)), drop(0, api.ErrIndex))
	// No Hello was sent for so long as the slot knows: another one is, without the cookie; its number is no older one's.
	told(t, r.p.Tun(goes(t, 2, 0, 0)), hello(t, 2, d[2], 0, 3))
	// No label was taken for so long as the slot knows: the same Hello is heard again.
	if l := r.p.Udp(end(2), heard); len(l) != 1 || l[0].Kind != plane.Send {
		t.Fatalf("Udp: %v", l)
	}
	r.draws(1)
	told(t, r.tick(9000), hello(t, 2, draw(4, 0), 5000, 5))
}

// P29.5: Removed of who is not known, and events that are none: nothing.
func TestSyncNothing(t *testing.T) {
	r, f := began(t, 0)
	told(t, r.p.Sync(nil))
	k := other(2).Public
	told(t, r.p.Sync([]vstore.Event{{Kind: vstore.Removed, Key: other(3).Public}, {Kind: vstore.Removed}, {}, {Kind: 4, Key: k}, {Kind: -1, Key: k}, {Kind: 0, Key: k}, {Kind: vstore.Added, Key: other(3).Public}, {Kind: vstore.Changed, Key: other(3).Public}}))
	r.noStat(2)
	r.ends(1, end(2))
	told(t, r.p.Tun(goes(t, 2, 1, 1)), send(end(2), f.passed(1, goes(t, 2, 1, 1))))
	// One that came and went, both of which are taken in later.
	l := append(r.put(other(3)), r.remove(3)...)
	told(t, r.p.Sync(l))
	r.noStat(2)
	l = append(r.put(other(3)), r.remove(3)...)
	l = append(l, r.put(lost(3))...)
	told(t, r.p.Sync(l))
	r.noEnd(2)
	if v := r.stat(2); v != (plane.Stat{Last: -1}) {
		t.Errorf("Stat: %v", v)
	}
}

// P29.5: of who is in the store no more: one that is not known stays so, one that is known is there still, without the timer of kind 3.
func TestSyncGone(t *testing.T) {
	r := setUp(t, 0)
	l := r.put(kept(2, 1))
	r.remove(2)
	told(t, r.p.Sync(l))
	r.noStat(1)
	told(t, r.p.Sync(r.put(kept(2, 1))))
	r.ends(1, end(2))
	told(t, r.tick(0), drop(1, api.ErrNone))
	r.remove(2)
	told(t, r.p.Sync([]vstore.Event{{Kind: vstore.Changed, Key: other(2).Public}}))
	r.quiet(100000)
	r.ends(1, end(2))
	told(t, r.p.Sync([]vstore.Event{{Kind: vstore.Removed, Key: other(2).Public}}))
	r.noStat(1)
}

// P29.5: an event that is taken in more than once, or of who was not known, and a slot that another one has by now.
func TestSyncAgain(t *testing.T) {
	r, f := began(t, 0)
	told(t, r.p.Udp(end(9), f.seal(nil)))
	k := other(2).Public
	told(t, r.p.Sync([]vstore.Event{{Kind: vstore.Added, Key: k}, {Kind: vstore.Changed, Key: k}}))
	// It is known: it is as it was.
	r.ends(1, end(9))
	told(t, r.p.Tun(goes(t, 2, 1, 1)), send(end(9), f.passed(1, goes(t, 2, 1, 1))))
	r.put(other(3))
	told(t, r.p.Sync([]vstore.Event{{Kind: vstore.Changed, Key: other(3).Public}}))
	r.ends(2, end(3))
	// Its slot is another one's, though it was not told that it went.
	told(t, r.p.Tun(goes(t, 3, 1, 1)), drop(2, api.ErrNone))
	r.remove(3)
	told(t, r.p.Sync(r.put(lost(4))), drop(2, api.ErrKey))
	r.noEnd(2)
	if v := r.stat(2); v != (plane.Stat{Last: -1}) {
		t.Errorf("Stat: %v", v)
	}
	told(t, r.p.Sync([]vstore.Event{{Kind: vstore.Removed, Key: other(3).Public}}))
	if v := r.stat(2); v != (plane.Stat{Last: -1}) {
		t.Errorf("Stat: %v", v)
	}
	// That is told in the order of the events.
	told(t, r.p.Tun(goes(t, 4, 1, 1)), drop(2, api.ErrAddr))
	told(t, r.p.Sync(r.put(lost(5))))
	told(t, r.p.Tun(goes(t, 5, 1, 1)), drop(3, api.ErrAddr))
	l := r.remove(5)
	r.remove(4)
	told(t, r.p.Sync(append(l, r.put(lost(6))...)), drop(3, api.ErrKey), drop(2, api.ErrKey))
}

// P29.5: Changed: its end is the peer's, if that is not the one that it had at the last event.
func TestChangedEnd(t *testing.T) {
	r, f := began(t, 0)
	move := func(n int) {
		t.Helper()
		told(t, r.p.Udp(end(n), f.seal(nil)))
		r.ends(1, end(n))
	}
	change := func(want int, p record.Peer) {
		t.Helper()
		told(t, r.p.Sync(r.put(p)))
		r.ends(1, end(want))
	}
	at := func(n int) record.Peer {
		p := other(2)
		p.End = end(n)
		return p
	}
	change(2, other(2))
	move(20)
	// Other things have changed.
	change(20, kept(2, 60000))
	change(20, other(2))
	change(30, at(30))
	move(20)
	change(20, at(30))
	// It is taken away: where it is stays; then the same one is another one.
	change(20, lost(2))
	change(20, lost(2))
	change(30, at(30))
	move(40)
	change(40, at(30))
	change(2, other(2))
	// Of a peer that never had one.
	r = setUp(t, 0, lost(2))
	r.noEnd(1)
	told(t, r.p.Sync(r.put(lost(2))))
	r.noEnd(1)
	told(t, r.p.Sync(r.put(other(2))))
	r.ends(1, end(2))
}

// P29.5: an end of one port, or one address, more is another one.
func TestChangedEndParts(t *testing.T) {
	r := setUp(t, 0, other(2))
	for i := range 5 {
		p := other(2)
		if i%2 == 0 {
			p.End.Port += i + 1
		} else {
			p.End.Addr.B[3] += byte(i)
		}
		told(t, r.p.Sync(r.put(p)))
		r.ends(1, p.End)
	}
}

// P29.5: Added and Changed set the timer of kind 3 to now, or clear it.
func TestSyncKeep(t *testing.T) {
	r := setUp(t, 0, lost(2))
	keep := func(seconds int) []vstore.Event {
		t.Helper()
		p := lost(2)
		p.Keep = seconds
		return r.put(p)
	}
	r.quiet(100)
	told(t, r.p.Sync(keep(7)))
	told(t, r.tick(100), drop(1, api.ErrAddr))
	r.quiet(7099)
	told(t, r.tick(7100), drop(1, api.ErrAddr))
	r.quiet(9000)
	told(t, r.p.Sync(keep(5)))
	told(t, r.tick(9000), drop(1, api.ErrAddr))
	r.quiet(13999)
	// Without a Keep it is cleared, also if that was not 0 when the timer was set.
	told(t, r.p.Sync(keep(0)))
	r.quiet(100000)
	told(t, r.p.Sync(keep(65535)))
	told(t, r.p.Sync(r.remove(2)))
	r.quiet(200000)
	// As it is added, and as it is told again.
	l := keep(1)
	told(t, r.p.Sync(l))
	told(t, r.tick(200500), drop(1, api.ErrAddr))
	told(t, r.p.Sync(l))
	told(t, r.tick(200600), drop(1, api.ErrAddr))
	r.quiet(201499)
	told(t, r.tick(201500), drop(1, api.ErrAddr))
}

// P29.5: a peer that is changed keeps its keys and what is counted; the Shared and the Keep of now count.
func TestChangedKeeps(t *testing.T) {
	r, f := began(t, 0)
	b := goes(t, 2, 1, 1)
	told(t, r.p.Sync(r.put(kept(2, 3))))
	told(t, r.p.Tun(b), send(end(2), f.passed(1, b)))
	if v := r.stat(1); v != (plane.Stat{Tx: 41, Handshakes: 1, Ready: true}) {
		t.Errorf("Stat: %v", v)
	}
	r.quiet(2999)
	told(t, r.tick(3000), send(end(2), f.passed(2, nil)))
}

// Rule 5: what is handed in is not kept, and what is handed out is new memory.
func TestMemory(t *testing.T) {
	r := setUp(t, 0, other(2))
	d := r.late(0)
	b := goes(t, 2, 3, 30)
	given := bytes.Clone(b)
	l := r.p.Tun(given)
	first := hello(t, 2, d, 0, 1)
	told(t, l, first)
	clear(given)
	clear(l[0].B)
	f := &far{t: t, n: 2}
	given = f.answer(first.B, 7)
	l = r.p.Udp(end(2), given)
	told(t, l, send(end(2), f.passed(0, b)))
	clear(given)
	clear(l[0].B)
	in := comes(t, 2, 4, 40)
	given = f.seal(fill(t, in))
	before := bytes.Clone(given)
	l = r.p.Udp(end(2), given)
	told(t, l, deliver(1, in))
	if !bytes.Equal(given, before) || cap(l[0].B) != len(l[0].B) {
		t.Errorf("given %x, want %x; room %d", given, before, cap(l[0].B))
	}
	events := r.put(kept(2, 5))
	was := append([]vstore.Event(nil), events...)
	told(t, r.p.Sync(events))
	if !reflect.DeepEqual(events, was) {
		t.Errorf("events %v, want %v", events, was)
	}
}

// P29.1: the gauge is of the sizes of all packets that were delivered, of that slot.
func TestSizes(t *testing.T) {
	r, f := began(t, 0)
	var want gauge.Gauge
	for i := range 30 {
		b := comes(t, 2, i, i*37%500)
		told(t, r.p.Udp(end(2), f.seal(fill(t, b))), deliver(1, b))
		want = want.Note(float64(len(b)))
		if got := r.stat(1).Sizes; got != want {
			t.Fatalf("Sizes: %v, want %v", got, want)
		}
	}
}
