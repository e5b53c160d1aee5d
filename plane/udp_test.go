package plane_test

import (
	"math"
	"slices"
	"testing"

	"adit/api"
	"adit/blake"
	"adit/cookie"
	"adit/curve"
	"adit/noise"
	"adit/plane"
	"adit/record"
	"adit/wire"
	"adit/words"
)

// reply is what the plane tells of a far side's Hello: its Answer of a number with a draw, sent to an end.
func reply(t *testing.T, b []byte, shared api.Key, fresh [32]byte, number uint32, to api.End) plane.Out {
	t.Helper()
	m, e := wire.ReadHello(b)
	if e != api.OK {
		t.Fatalf("ReadHello: %v", e)
	}
	state, _, e := noise.Hear(secret(me), m)
	if e != api.OK {
		t.Fatalf("Hear: %v", e)
	}
	_, a, e := noise.Reply(state, shared, fresh, number)
	if e != api.OK {
		t.Fatalf("Reply: %v", e)
	}
	return send(to, mark(t, wire.WriteAnswer(a), state.Other))
}

// heard is a far side's Hello, marked for the plane.
func (f *far) heard(at int64, number uint32) []byte {
	f.t.Helper()
	b, _ := f.hello(at, number)
	return mark(f.t, b, curve.Public(secret(me)))
}

// proof is the plane's cookie of an end at a time.
func proof(t *testing.T, to api.End, at int64) [16]byte {
	t.Helper()
	k := secret(me)
	age := words.Put64(uint64(at / 120000))
	c, e := cookie.Make(blake.Sum32(slices.Concat(k[:], age[:])), to)
	if e != api.OK {
		t.Fatalf("Make: %v", e)
	}
	return c
}

// proved is a far side's Hello with the cookie of an end at a time.
func (f *far) proved(to api.End, at int64, number uint32) []byte {
	f.t.Helper()
	b, _ := f.hello(int64(1000*number), number)
	return markBoth(f.t, b, curve.Public(secret(me)), proof(f.t, to, at))
}

// asked is what the plane tells who is to prove where they come from.
func asked(t *testing.T, b []byte, fresh [32]byte, to api.End, at int64) []plane.Out {
	t.Helper()
	m, e := cookie.Tell(b, curve.Public(secret(me)), [24]byte(fresh[:24]), proof(t, to, at))
	if e != api.OK {
		t.Fatalf("Tell: %v", e)
	}
	return []plane.Out{send(to, wire.WriteCookie(m)), drop(0, api.ErrLoad)}
}

// wrongEnds are ends that may not be.
func wrongEnds() []api.End {
	return []api.End{
		{}, {Addr: addr(192, 0, 2, 1)}, {Addr: addr(192, 0, 2, 1), Port: -1}, {Addr: addr(192, 0, 2, 1), Port: 65536}, {Addr: addr(192, 0, 2, 1), Port: math.MaxInt},
		{Addr: addr(192, 0, 2, 1), Port: math.MinInt}, {Addr: api.Addr{B: [16]byte{192, 0, 2, 1, 1}}, Port: 5}, {Addr: api.Addr{B: [16]byte{15: 1}}, Port: 5}, {Addr: api.Addr{Six: true}}, {Addr: api.Addr{Six: true, B: [16]byte{15: 1}}, Port: 65536},
	}
}

// P29.3: Kind's error, ahead of whatever the end is.
func TestUdpKind(t *testing.T) {
	r, f := began(t, 0)
	hb := f.heard(5, 9)
	for _, c := range []struct {
		b    []byte
		want api.Errno
	}{
		{nil, api.ErrShort}, {[]byte{}, api.ErrShort}, {[]byte{1, 0, 0}, api.ErrShort}, {[]byte{4}, api.ErrShort},
		{[]byte{0, 0, 0, 0}, api.ErrKind}, {[]byte{5, 0, 0, 0}, api.ErrKind}, {[]byte{1, 0, 0, 1}, api.ErrKind}, {append([]byte{4, 1}, hb[2:]...), api.ErrKind},
		{[]byte{1, 0, 0, 0}, api.ErrForm}, {[]byte{4, 0, 0, 0}, api.ErrForm}, {hb[:147], api.ErrForm}, {append(slices.Clone(hb), 0), api.ErrForm}, {make([]byte, 1<<20), api.ErrKind},
		{append([]byte{4, 0, 0, 0}, make([]byte, 12+1536)...), api.ErrForm},
	} {
		told(t, r.p.Udp(end(2), c.b), drop(0, c.want))
		told(t, r.p.Udp(api.End{}, c.b), drop(0, c.want))
	}
	told(t, r.p.Tun(goes(t, 2, 1, 1)), send(end(2), f.passed(1, goes(t, 2, 1, 1))))
}

// P29.3: a from that may not be, of whichever kind, ahead of all but Kind's error.
func TestUdpAddr(t *testing.T) {
	r, f := began(t, 0)
	r.draws(3)
	hb := f.heard(5, 9)
	turned := slices.Clone(hb)
	turned[130]++
	first := r.p.Sync(r.put(other(3)))
	told(t, first)
	l := r.p.Tun(goes(t, 3, 0, 0))
	told(t, l, hello(t, 3, draw(1, 0), 0, 2))
	g := &far{t: t, n: 3}
	answer := g.answer(l[0].B, 5)
	m, _ := cookie.Tell(l[0].B, other(3).Public, [24]byte{}, [16]byte{1})
	d := f.seal(fill(t, comes(t, 2, 1, 1)))
	for range 2 {
		for _, from := range wrongEnds() {
			for _, b := range [][]byte{hb, turned, answer, wire.WriteCookie(m), d, data(t, api.Key{}, 99, 5, nil)} {
				told(t, r.p.Udp(from, b), drop(0, api.ErrAddr))
			}
		}
		r.p.Load(true)
	}
	r.p.Load(false)
	r.ends(1, end(2))
	r.ends(2, end(3))
	told(t, r.p.Udp(end(2), hb), reply(t, hb, api.Key{}, draw(2, 0), 3, end(2)))
	told(t, r.p.Udp(end(2), d), deliver(1, comes(t, 2, 1, 1)))
	told(t, r.p.Udp(end(3), answer), send(end(3), g.passed(0, goes(t, 3, 0, 0))))
	// The least and the greatest port, and an end of IPv6, may be.
	for _, from := range []api.End{{Addr: addr(0, 0, 0, 0), Port: 1}, {Addr: addr(255, 255, 255, 255), Port: 65535}, {Addr: api.Addr{Six: true, B: [16]byte{15: 1}}, Port: 7}, {Addr: api.Addr{Six: true}, Port: 65535}} {
		told(t, r.p.Udp(from, f.seal(nil)))
		r.ends(1, from)
	}
}

// P29.3: a Hello or an Answer whose Mac1 is not right, under load or not.
func TestUdpMac(t *testing.T) {
	r := setUp(t, 0, other(2))
	r.draws(2)
	f := &far{t: t, n: 2}
	l := r.p.Tun(goes(t, 2, 0, 0))
	told(t, l, hello(t, 2, draw(0, 0), 0, 1))
	answer, heard := f.answer(l[0].B, 5), f.heard(5, 9)
	for _, load := range []bool{true, false} {
		r.p.Load(load)
		for _, b := range [][]byte{answer, heard} {
			for at := range len(b) - 16 {
				if at > 3 && at%5 != 0 && at < len(b)-40 {
					continue
				}
				turned := slices.Clone(b)
				turned[at] ^= 1 << (at % 8)
				if _, e := wire.Kind(turned); e != api.OK {
					continue
				}
				told(t, r.p.Udp(end(2), turned), drop(0, api.ErrMac))
			}
			// Marked for another one.
			told(t, r.p.Udp(end(2), mark(t, b, other(2).Public)), drop(0, api.ErrMac))
			told(t, r.p.Udp(end(2), markBoth(t, b, other(2).Public, proof(t, end(2), 0))), drop(0, api.ErrMac))
		}
	}
	// Without load Mac2 is of no matter.
	heard[140]++
	told(t, r.p.Udp(end(2), heard), reply(t, heard, api.Key{}, draw(1, 0), 2, end(2)))
	answer[91]++
	told(t, r.p.Udp(end(2), answer), send(end(2), data(t, sealing(t, answer, draw(0, 0)), 5, 0, fill(t, goes(t, 2, 0, 0)))))
}

// sealing is the key with which the plane seals behind an Answer to its Hello 1 of time 0 to the side 2.
func sealing(t *testing.T, answer []byte, fresh [32]byte) api.Key {
	t.Helper()
	state, _, _ := noise.Begin(secret(me), other(2).Public, fresh, label(t, 0), 1)
	m, e := wire.ReadAnswer(answer)
	if e != api.OK {
		t.Fatalf("ReadAnswer: %v", e)
	}
	keys, e := noise.Finish(state, secret(me), api.Key{}, m)
	if e != api.OK {
		t.Fatalf("Finish: %v", e)
	}
	return keys.Send
}

// P29.3, P6: under load a handshake without the cookie of its end is answered with that, which is drawn; with it it is heard.
func TestLoad(t *testing.T) {
	at := int64(1000)
	r := setUp(t, at, other(2))
	f := &far{t: t, n: 2}
	r.p.Load(true)
	b := f.heard(5, 9)
	told(t, r.p.Udp(end(7), b), drop(0, api.ErrNone))
	d := r.late(5)
	told(t, r.p.Udp(end(7), b), asked(t, b, d, end(7), at)...)
	// The draw is gone.
	told(t, r.p.Udp(end(7), b), drop(0, api.ErrNone))
	r.fresh(2)
	m, _ := cookie.Tell(b, r.p.Public(), [24]byte(d[:24]), proof(t, end(7), at))
	learned, e := cookie.Hear(m, r.p.Public(), [16]byte(b[116:132]))
	if e != api.OK {
		t.Fatalf("Hear: %v", e)
	}
	right := markBoth(t, b, r.p.Public(), learned)
	// From another end, or of another cookie, it is not right.
	d = r.late(6)
	told(t, r.p.Udp(end(8), right), asked(t, right, d, end(8), at)...)
	d = r.late(6)
	other7 := end(7)
	other7.Port++
	told(t, r.p.Udp(other7, right), asked(t, right, d, other7, at)...)
	d = r.late(7)
	wrong := slices.Clone(right)
	wrong[147] ^= 128
	told(t, r.p.Udp(end(7), wrong), asked(t, wrong, d, end(7), at)...)
	// With it it comes to what a Hello is answered.
	told(t, r.p.Udp(end(7), right), drop(1, api.ErrNone))
	d = r.late(8)
	told(t, r.p.Udp(end(7), right), reply(t, right, api.Key{}, d, 1, end(7)))
	r.ends(1, end(7))
	// Without load all are heard again.
	r.p.Load(false)
	d = r.late(9)
	b = f.heard(3000, 10)
	told(t, r.p.Udp(end(8), b), reply(t, b, api.Key{}, d, 2, end(8)))
	r.p.Load(true)
	d = r.late(9)
	b = f.heard(4000, 11)
	told(t, r.p.Udp(end(8), b), asked(t, b, d, end(8), at)...)
}

// fresh holds that nothing was done with the slot 1, which has an end of a number.
func (r *rig) fresh(n int) {
	r.t.Helper()
	r.ends(1, end(n))
	r.waits(0)
}

// waits holds that so many packets wait in the slot 1, and nothing else was done with it.
func (r *rig) waits(n int) {
	r.t.Helper()
	if v := r.stat(1); v != (plane.Stat{Last: -1, Waits: n}) {
		r.t.Fatalf("Stat: %v", v)
	}
}

// P29.3: under load Answers are asked likewise, and heard with the cookie of their end.
func TestLoadAnswer(t *testing.T) {
	r := setUp(t, 0, other(2))
	r.p.Load(true)
	r.draws(1)
	f := &far{t: t, n: 2}
	l := r.p.Tun(goes(t, 2, 0, 0))
	told(t, l, hello(t, 2, draw(0, 0), 0, 1))
	answer := f.answer(l[0].B, 0x01020304)
	told(t, r.p.Udp(end(5), answer), drop(0, api.ErrNone))
	d := r.late(0)
	got := r.p.Udp(end(5), answer)
	told(t, got, asked(t, answer, d, end(5), 0)...)
	if m, e := wire.ReadCookie(got[0].B); e != api.OK || m.Receiver != 0x01020304 {
		t.Errorf("%v %v", m, e)
	}
	r.waits(1)
	told(t, r.p.Udp(end(5), markBoth(t, answer, r.p.Public(), proof(t, end(5), 0))), send(end(5), f.passed(0, goes(t, 2, 0, 0))))
}

// P29.3: a cookie is right as long as the time has the same whole number of CookieAge; of Cookies and Datas nothing is asked.
func TestLoadAge(t *testing.T) {
	f := &far{t: t, n: 2}
	for _, c := range []struct {
		made, now int64
		right     bool
	}{
		{0, 119999, true}, {0, 120000, false}, {119999, 120000, false}, {120000, 239999, true}, {120000, 119999, false}, {240000, 239999, false}, {api.MaxTime - api.MaxTime%120000, api.MaxTime, true}, {0, api.MaxTime, false},
	} {
		r := setUp(t, c.now, other(2))
		r.p.Load(true)
		b := f.proved(end(2), c.made, 4)
		if d := r.late(0); c.right {
			told(t, r.p.Udp(end(2), b), reply(t, b, api.Key{}, d, 1, end(2)))
		} else {
			told(t, r.p.Udp(end(2), b), asked(t, b, d, end(2), c.now)...)
		}
	}
	r, f := began(t, 0)
	r.p.Load(true)
	told(t, r.p.Udp(end(2), f.seal(fill(t, comes(t, 2, 1, 1)))), deliver(1, comes(t, 2, 1, 1)))
	told(t, r.p.Udp(end(2), wire.WriteCookie(wire.CookieMsg{})), drop(0, api.ErrIndex))
}

// P29.3: the limiter is asked under load, for those with a right cookie alone: five at once, then one each 50 milliseconds.
func TestLoadRate(t *testing.T) {
	r := setUp(t, 0, other(2), other(3))
	f := &far{t: t, n: 2}
	n := uint32(0)
	heard := func(from api.End) {
		t.Helper()
		n++
		d := r.late(0)
		b := f.proved(from, r.p.Now(), n)
		told(t, r.p.Udp(from, b), reply(t, b, api.Key{}, d, n, from))
	}
	refused := func(from api.End, want api.Errno) {
		t.Helper()
		told(t, r.p.Udp(from, f.proved(from, r.p.Now(), n+1)), drop(0, want))
	}
	// Without load it is not asked, with whatever cookie.
	for range 7 {
		heard(end(9))
	}
	r.p.Load(true)
	for range 9 {
		d := r.late(0)
		b := f.heard(5, 9)
		told(t, r.p.Udp(end(9), b), asked(t, b, d, end(9), 0)...)
	}
	for i := range 5 {
		// Ports are of no matter.
		from := end(9)
		from.Port += i
		heard(from)
	}
	refused(end(9), api.ErrRate)
	heard(end(8))
	r.quiet(49)
	refused(end(9), api.ErrRate)
	r.quiet(50)
	heard(end(9))
	refused(end(9), api.ErrRate)
	// Whoever is let through is so whatever becomes of the handshake.
	r.quiet(100)
	b := f.proved(end(9), 100, 1)
	told(t, r.p.Udp(end(9), b), drop(1, api.ErrStale))
	refused(end(9), api.ErrRate)
	// Answers, too.
	told(t, r.p.Udp(end(9), markBoth(t, wire.WriteAnswer(wire.AnswerMsg{}), r.p.Public(), proof(t, end(9), 100))), drop(0, api.ErrRate))
}

// P29.3: the limiter's error: more addresses than it has room for.
func TestLoadFull(t *testing.T) {
	r := setUp(t, 0, other(2))
	f := &far{t: t, n: 2}
	r.p.Load(true)
	for i := range 32 {
		b := f.proved(end(100+i), 0, 1)
		told(t, r.p.Udp(end(100+i), b), drop(1, api.ErrNone))
	}
	told(t, r.p.Udp(end(50), f.proved(end(50), 0, 1)), drop(0, api.ErrFull))
	told(t, r.p.Udp(end(100), f.proved(end(100), 0, 1)), drop(1, api.ErrNone))
	r.quiet(1000)
	told(t, r.p.Udp(end(50), f.proved(end(50), 0, 1)), drop(1, api.ErrNone))
}

// P29.3: of a Hello: its errors, in order; nothing has changed.
func TestHelloErrors(t *testing.T) {
	r := setUp(t, 50000, other(2))
	f, g := &far{t: t, n: 2}, &far{t: t, n: 3}
	hear := func(b []byte, want plane.Out) {
		t.Helper()
		told(t, r.p.Udp(end(9), mark(t, b, r.p.Public())), want)
	}
	d := r.late(0)
	// Hear's errors.
	b, _ := f.hello(5000, 1)
	low := slices.Clone(b)
	clear(low[8:40])
	hear(low, drop(0, api.ErrZero))
	for _, at := range []int{9, 41, 87, 88, 115} {
		turned := slices.Clone(b)
		turned[at] ^= 4
		hear(turned, drop(0, api.ErrTag))
	}
	// For somebody else, though marked for the plane.
	_, m, _ := noise.Begin(secret(2), other(3).Public, secret(9), label(t, 5), 1)
	hear(wire.WriteHello(m), drop(0, api.ErrTag))
	// Of who is no peer, then of whom no event was taken in, then of one that is gone.
	b3, _ := g.hello(5000, 1)
	hear(b3, drop(0, api.ErrKey))
	added := r.put(other(3))
	hear(b3, drop(0, api.ErrKey))
	told(t, r.p.Sync(added))
	removed := r.remove(3)
	hear(b3, drop(0, api.ErrKey))
	told(t, r.p.Sync(removed))
	hear(b3, drop(0, api.ErrKey))
	r.fresh(2)
	// The draw is there still, and the number.
	hear(b, reply(t, b, api.Key{}, d, 1, end(9)))
	r.ends(1, end(9))
	// Not behind the last one that was taken, without draws and with one.
	later, _ := f.hello(5001, 2)
	stale := func() {
		t.Helper()
		for _, at := range []int64{5000, 4999, 0} {
			old, _ := f.hello(at, 2)
			hear(old, drop(1, api.ErrStale))
		}
	}
	stale()
	hear(later, drop(1, api.ErrNone))
	stale()
	d = r.late(0)
	stale()
	hear(later, reply(t, later, api.Key{}, d, 2, end(9)))
	hear(later, drop(1, api.ErrStale))
	if v := r.stat(1); v.Handshakes != 2 || v.Last != 50000 {
		t.Errorf("Stat: %v", v)
	}
}

// P29.3: a Hello that is answered: the Answer, which the far side hears, at the end from which it came; the keys are of Next.
func TestHello(t *testing.T) {
	r := setUp(t, 70000, other(2), other(3))
	d := r.late(3)
	f := &far{t: t, n: 3}
	b, state := f.hello(5, 0x0a0b0c0d)
	b = mark(t, b, r.p.Public())
	l := r.p.Udp(end(30), b)
	told(t, l, reply(t, b, api.Key{}, d, 1, end(30)))
	if !cookie.Check1(l[0].B, curve.Public(secret(3))) || cap(l[0].B) != len(l[0].B) {
		t.Errorf("%x", l[0].B)
	}
	f.finish(state, l[0].B)
	if f.keys.Remote != 1 || f.keys.Local != 0x0a0b0c0d {
		t.Errorf("%v", f.keys)
	}
	r.ends(2, end(30))
	r.fresh(2)
	if v := r.stat(2); v != (plane.Stat{Handshakes: 1, Last: 70000}) {
		t.Errorf("Stat: %v", v)
	}
	in := comes(t, 3, 1, 5)
	told(t, r.p.Udp(end(31), f.seal(fill(t, in))), deliver(2, in))
	r.ends(2, end(31))
	if v := r.stat(2); !v.Ready || v.Rx != 32 {
		t.Errorf("Stat: %v", v)
	}
	// A Hello does not touch a handshake that this side began.
	d = r.late(0)
	told(t, r.p.Tun(goes(t, 2, 0, 0)), hello(t, 2, d, 70000, 2))
	first := hello(t, 2, d, 70000, 2)
	g := &far{t: t, n: 2}
	d = r.late(0)
	b = g.heard(6, 9)
	told(t, r.p.Udp(end(2), b), reply(t, b, api.Key{}, d, 3, end(2)))
	told(t, r.p.Udp(end(2), g.answer(first.B, 10)), send(end(2), g.passed(0, goes(t, 2, 0, 0))))
}

// P29.3: the peer's Shared counts, as the store has it now, in Answers and of Answers.
func TestShared(t *testing.T) {
	p := other(2)
	p.Shared = secret(42)
	r := setUp(t, 0, p)
	f := &far{t: t, n: 2, shared: secret(42)}
	d := r.late(0)
	b, state := f.hello(5, 1)
	b = mark(t, b, r.p.Public())
	l := r.p.Udp(end(2), b)
	told(t, l, reply(t, b, secret(42), d, 1, end(2)))
	f.finish(state, l[0].B)
	p.Shared = secret(43)
	f.shared = secret(43)
	r.put(p)
	d = r.late(0)
	b, _ = f.hello(6, 2)
	b = mark(t, b, r.p.Public())
	told(t, r.p.Udp(end(2), b), reply(t, b, secret(43), d, 2, end(2)))
	r.draws(1)
	l = r.p.Tun(goes(t, 2, 0, 0))
	wrong := &far{t: t, n: 2, shared: secret(42)}
	told(t, r.p.Udp(end(9), wrong.answer(l[0].B, 3)), drop(1, api.ErrTag))
	told(t, r.p.Udp(end(2), f.answer(l[0].B, 3)), send(end(2), f.passed(0, goes(t, 2, 0, 0))))
}

// P29.3: of an Answer: its errors, in order; nothing has changed.
func TestAnswerErrors(t *testing.T) {
	r := setUp(t, 0, other(2), other(3))
	r.draws(2)
	f, g := &far{t: t, n: 2}, &far{t: t, n: 3}
	blind := mark(t, wire.WriteAnswer(wire.AnswerMsg{Receiver: 1}), r.p.Public())
	zero := mark(t, wire.WriteAnswer(wire.AnswerMsg{}), r.p.Public())
	for _, b := range [][]byte{blind, zero} {
		told(t, r.p.Udp(end(9), b), drop(0, api.ErrIndex))
	}
	l := r.p.Tun(goes(t, 2, 0, 0))
	m := r.p.Tun(goes(t, 3, 0, 0))
	told(t, l, hello(t, 2, draw(0, 0), 0, 1))
	told(t, m, hello(t, 3, draw(1, 0), 0, 2))
	a, b := f.answer(l[0].B, 7), g.answer(m[0].B, 8)
	// Of a wrong number, of a right one and nothing that opens, and of the other one's.
	told(t, r.p.Udp(end(9), zero), drop(0, api.ErrIndex))
	told(t, r.p.Udp(end(9), mark(t, wire.WriteAnswer(wire.AnswerMsg{Receiver: 3}), r.p.Public())), drop(0, api.ErrIndex))
	told(t, r.p.Udp(end(9), mark(t, wire.WriteAnswer(wire.AnswerMsg{Sender: 2, Receiver: 1 << 24}), r.p.Public())), drop(0, api.ErrIndex))
	told(t, r.p.Udp(end(9), blind), drop(1, api.ErrZero))
	swapped := slices.Clone(a)
	swapped[8] = 2
	told(t, r.p.Udp(end(9), mark(t, swapped, r.p.Public())), drop(2, api.ErrTag))
	for _, at := range []int{12, 44, 59} {
		turned := slices.Clone(b)
		turned[at] ^= 2
		told(t, r.p.Udp(end(9), mark(t, turned, r.p.Public())), drop(2, api.ErrTag))
	}
	for slot := 1; slot <= 2; slot++ {
		r.ends(slot, end(1+slot))
		if v := r.stat(slot); v != (plane.Stat{Last: -1, Waits: 1}) {
			t.Errorf("Stat: %v", v)
		}
	}
	told(t, r.p.Udp(end(3), b), send(end(3), g.passed(0, goes(t, 3, 0, 0))))
	// It is over.
	told(t, r.p.Udp(end(9), b), drop(0, api.ErrIndex))
	r.ends(2, end(3))
	told(t, r.p.Udp(end(2), a), send(end(2), f.passed(0, goes(t, 2, 0, 0))))
}

// P29.3: an Answer that is right: the handshake is over, the keys are there, the end is from, and what waited goes there; or, if nothing waits, no bytes.
func TestAnswer(t *testing.T) {
	r := setUp(t, 3000, kept(2, 600))
	d := r.late(200)
	told(t, r.tick(3000), hello(t, 2, d, 3000, 1))
	f := &far{t: t, n: 2}
	r.quiet(4000)
	told(t, r.p.Udp(end(22), f.answer(hello(t, 2, d, 3000, 1).B, 5)), send(end(22), f.passed(0, nil)))
	r.ends(1, end(22))
	if v := r.stat(1); v != (plane.Stat{Handshakes: 1, Last: 4000, Ready: true}) {
		t.Errorf("Stat: %v", v)
	}
	// Its timer is cleared, and that of kind 3 was set by what was passed on.
	r.draws(1)
	r.quiet(603999)
	told(t, r.tick(604000), hello2(t, draw(1, 0), 604000, 2, end(22)))
}

// hello2 is what is told of a Hello to the other side 2 at an end.
func hello2(t *testing.T, fresh [32]byte, at int64, number uint32, to api.End) plane.Out {
	t.Helper()
	out := hello(t, 2, fresh, at, number)
	out.End = to
	return out
}

// P29.3: of a Cookie: its errors, and what is marked with it for less than CookieAge.
func TestCookie(t *testing.T) {
	r := setUp(t, 0, other(2), other(3))
	f := &far{t: t, n: 2}
	said := func(receiver uint32, b []byte, from int, c [16]byte) []byte {
		t.Helper()
		m, e := cookie.Tell(b, other(from).Public, [24]byte{7, 8, 9}, c)
		if e != api.OK {
			t.Fatalf("Tell: %v", e)
		}
		m.Receiver = receiver
		return wire.WriteCookie(m)
	}
	d := r.late(0)
	first := hello(t, 2, d, 0, 1)
	told(t, r.p.Udp(end(2), said(1, first.B, 2, [16]byte{1})), drop(0, api.ErrIndex))
	told(t, r.p.Tun(goes(t, 2, 0, 0)), first)
	for _, receiver := range []uint32{0, 2, 1 << 24} {
		told(t, r.p.Udp(end(2), said(receiver, first.B, 2, [16]byte{1})), drop(0, api.ErrIndex))
	}
	// By another one, and of another handshake.
	told(t, r.p.Udp(end(2), said(1, first.B, 3, [16]byte{1})), drop(1, api.ErrTag))
	told(t, r.p.Udp(end(2), said(1, f.heard(5, 5), 2, [16]byte{1})), drop(1, api.ErrTag))
	r.late(0)
	told(t, r.tick(5000), hello(t, 2, draw(1, 0), 5000, 2))
	// Of the last Hello alone.
	told(t, r.p.Udp(end(2), said(1, first.B, 2, [16]byte{1})), drop(0, api.ErrIndex))
	second := hello(t, 2, draw(1, 0), 5000, 2)
	told(t, r.p.Udp(end(2), said(2, first.B, 2, [16]byte{1})), drop(1, api.ErrTag))
	r.quiet(6000)
	told(t, r.p.Udp(end(9), said(2, second.B, 2, [16]byte{1, 2})))
	// It moves nobody, and ends nothing.
	r.ends(1, end(2))
	r.waits(1)
	third := markBoth(t, bareHello(t, 2, draw(2, 0), 10000, 3), other(2).Public, [16]byte{1, 2})
	r.late(0)
	told(t, r.tick(10000), send(end(2), third))
	// Another one takes its place; a Mac2 is of no matter for it.
	told(t, r.p.Udp(end(2), said(3, third, 2, [16]byte{3, 4})))
	r.late(0)
	told(t, r.tick(15000), send(end(2), markBoth(t, bareHello(t, 2, draw(3, 0), 15000, 4), other(2).Public, [16]byte{3, 4})))
	// The other slot has none.
	d = r.late(0)
	told(t, r.p.Tun(goes(t, 3, 0, 0)), hello(t, 3, d, 15000, 5))
}

// P29.3: a cookie marks Hellos and Answers for less than CookieAge, whatever became of the handshake.
func TestCookieAge(t *testing.T) {
	for _, c := range []struct {
		at    int64
		young bool
	}{{1000, true}, {1001, true}, {120999, true}, {121000, false}, {121001, false}, {200000, false}} {
		r := setUp(t, 1000, other(2))
		f := &far{t: t, n: 2}
		d := r.late(0)
		first := hello(t, 2, d, 1000, 1)
		told(t, r.p.Tun(goes(t, 2, 0, 0)), first)
		m, _ := cookie.Tell(first.B, other(2).Public, [24]byte{}, [16]byte{5})
		told(t, r.p.Udp(end(2), wire.WriteCookie(m)))
		told(t, r.p.Udp(end(2), f.answer(first.B, 6)), send(end(2), f.passed(0, goes(t, 2, 0, 0))))
		r.quiet(c.at)
		// An Answer is marked as a Hello is.
		d = r.late(0)
		b := f.heard(5, 9)
		want := reply(t, b, api.Key{}, d, 2, end(2))
		if c.young {
			want.B = markBoth(t, want.B, other(2).Public, [16]byte{5})
		}
		told(t, r.p.Udp(end(2), b), want)
		// A Hello is not marked with one that is too old: of keys that are tired, or gone.
		var all []plane.Out
		if c.at < 181000 {
			all = append(all, send(end(2), f.passed(1, goes(t, 2, 0, 0))))
		}
		if c.at >= 121000 {
			all = append(all, hello(t, 2, r.late(0), c.at, 3))
		}
		told(t, r.p.Tun(goes(t, 2, 0, 0)), all...)
	}
}

// P29.3: of a Data: its errors, in order; nothing has changed.
func TestDataErrors(t *testing.T) {
	r, f := began(t, 0)
	in := fill(t, comes(t, 2, 1, 1))
	for _, receiver := range []uint32{0, 2, 77, 1 << 24, math.MaxUint32} {
		told(t, r.p.Udp(end(9), data(t, f.keys.Send, receiver, 0, in)), drop(0, api.ErrIndex))
	}
	told(t, r.p.Udp(end(9), data(t, f.keys.Receive, 1, 0, in)), drop(1, api.ErrTag))
	b := f.seal(in)
	for _, at := range []int{8, 16, 30, len(b) - 1} {
		turned := slices.Clone(b)
		turned[at] ^= 16
		told(t, r.p.Udp(end(9), turned), drop(1, api.ErrTag))
	}
	told(t, r.p.Udp(end(9), data(t, f.keys.Send, 1, api.RejectMessages, in)), drop(1, api.ErrSpent))
	r.ends(1, end(2))
	if v := r.stat(1); v.Rx != 0 {
		t.Errorf("Stat: %v", v)
	}
	told(t, r.p.Udp(end(8), b), deliver(1, in[:21]))
	// P5: once.
	told(t, r.p.Udp(end(9), b), drop(1, api.ErrReplay))
	told(t, r.p.Udp(end(8), b), drop(1, api.ErrReplay))
	r.ends(1, end(8))
	if v := r.stat(1); v.Rx != 32 || v.Sizes.Count != 1 {
		t.Errorf("Stat: %v", v)
	}
	// Too old keys are no more.
	r.tick(179999)
	told(t, r.p.Udp(end(7), f.seal(nil)))
	r.ends(1, end(7))
	r.tick(180000)
	told(t, r.p.Udp(end(9), f.seal(in)), drop(0, api.ErrIndex))
	r.ends(1, end(7))
}

// P29.3, P8: whatever opens moves the end, delivered or not.
func TestDataMoves(t *testing.T) {
	r, f := began(t, 0)
	six := api.End{Addr: api.Addr{Six: true, B: [16]byte{0xfe, 0x80, 15: 9}}, Port: 9}
	told(t, r.p.Udp(end(3), f.seal(nil)))
	r.ends(1, end(3))
	told(t, r.p.Udp(end(4), f.seal(make([]byte, 32))), drop(1, api.ErrHeader))
	r.ends(1, end(4))
	told(t, r.p.Udp(end(5), f.seal([]byte{15: 0x60})), drop(1, api.ErrHeader))
	r.ends(1, end(5))
	told(t, r.p.Udp(end(6), f.seal(append([]byte{0x45}, make([]byte, 15)...))), drop(1, api.ErrShort))
	r.ends(1, end(6))
	told(t, r.p.Udp(end(7), f.seal(fill(t, packet(t, inside(1), inside(2), nil)))), drop(1, api.ErrSource))
	r.ends(1, end(7))
	b := comes(t, 2, 9, 90)
	told(t, r.p.Udp(six, f.seal(fill(t, b))), deliver(1, b))
	r.ends(1, six)
	told(t, r.p.Tun(goes(t, 2, 1, 1)), send(six, f.passed(1, goes(t, 2, 1, 1))))
	if v := r.stat(1); v.Rx != 32+16+16+32+112 || v.Sizes.Count != 1 {
		t.Errorf("Stat: %v", v)
	}
}

// P29.3, P29.6: what is delivered comes from an address that is that peer's, as the store has it.
func TestDataSource(t *testing.T) {
	r, f := began(t, 0)
	told(t, r.p.Sync(r.put(other(3))))
	in := fill(t, comes(t, 2, 1, 1))
	told(t, r.p.Udp(end(2), f.seal(fill(t, comes(t, 3, 1, 1)))), drop(1, api.ErrSource))
	told(t, r.p.Udp(end(2), f.seal(fill(t, comes(t, 4, 1, 1)))), drop(1, api.ErrSource))
	told(t, r.p.Udp(end(2), f.seal(in)), deliver(1, in[:21]))
	// The address is another one's, then nobody's, then this one's again.
	thief := other(3)
	thief.Routes = append([]api.Prefix{{Addr: inside(2), Bits: 32}}, thief.Routes...)
	told(t, r.p.Sync(r.put(thief)))
	told(t, r.p.Udp(end(2), f.seal(in)), drop(1, api.ErrSource))
	bare := other(2)
	bare.Routes = nil
	r.put(other(3))
	r.put(bare)
	told(t, r.p.Udp(end(2), f.seal(in)), drop(1, api.ErrSource))
	r.put(other(2))
	told(t, r.p.Udp(end(2), f.seal(in)), deliver(1, in[:21]))
	// Whom it goes to is of no matter.
	away := packet(t, inside(2), inside(9), nil)
	told(t, r.p.Udp(end(2), f.seal(fill(t, away))), deliver(1, away))
	// Of a peer that is gone from the store, though no event was taken in.
	r.remove(2)
	told(t, r.p.Udp(end(2), f.seal(in)), drop(1, api.ErrSource))
}

// P29.3: packets are delivered cut, of any size, in whatever order they come.
func TestDataOrder(t *testing.T) {
	r, f := began(t, 0)
	var sealed, packets [][]byte
	for i, size := range []int{0, 1, 12, 13, 1480, 1476, 700} {
		b := comes(t, 2, i, size)
		packets, sealed = append(packets, b), append(sealed, f.seal(fill(t, b)))
	}
	for _, i := range []int{3, 0, 6, 1, 5, 4, 2} {
		told(t, r.p.Udp(end(2), sealed[i]), deliver(1, packets[i]))
	}
	for i := range sealed {
		told(t, r.p.Udp(end(2), sealed[i]), drop(1, api.ErrReplay))
	}
}

// P29.3: keys that the other side began with are those of now behind its first packet, of no bytes as well; what waited goes to where that came from.
func TestDataFirst(t *testing.T) {
	for _, empty := range []bool{true, false} {
		r, f := answered(t, 0)
		var want []plane.Out
		r.draws(1)
		for i := range 3 {
			r.p.Tun(goes(t, 2, i, i))
			want = append(want, send(end(5), f.passed(uint64(i), goes(t, 2, i, i))))
		}
		told(t, r.p.Udp(end(5), data(t, f.keys.Receive, f.keys.Remote, 0, nil)), drop(1, api.ErrTag))
		var text []byte
		if !empty {
			in := comes(t, 2, 7, 70)
			text, want = fill(t, in), append(want, deliver(1, in))
		}
		told(t, r.p.Udp(end(5), f.seal(text)), want...)
		told(t, r.p.Udp(end(5), f.seal(nil)))
	}
	// A wrong packet of keys of next lets go as well.
	r, f := answered(t, 0)
	r.draws(1)
	r.p.Tun(goes(t, 2, 1, 1))
	told(t, r.p.Udp(end(5), f.seal(make([]byte, 16))), send(end(5), f.passed(0, goes(t, 2, 1, 1))), drop(1, api.ErrHeader))
	// Where nothing waits, nothing is sent.
	r, f = answered(t, 0)
	told(t, r.p.Udp(end(5), f.seal(nil)))
	if v := r.stat(1); v != (plane.Stat{Handshakes: 1, Ready: true}) {
		t.Errorf("Stat: %v", v)
	}
}

// P29.3: a peer of low order, to whom no Hello can be said: the draw and the number are used up, and there is no handshake.
func TestBeginZero(t *testing.T) {
	low := record.Peer{Public: api.Key{1}, HasEnd: true, End: end(5), Routes: []api.Prefix{route(5)}}
	r := setUp(t, 0, low, other(2))
	r.draws(2)
	told(t, r.p.Tun(goes(t, 5, 0, 0)), drop(1, api.ErrZero))
	told(t, r.p.Tun(goes(t, 5, 0, 0)), drop(1, api.ErrZero))
	told(t, r.p.Tun(goes(t, 5, 0, 0)), drop(1, api.ErrNone))
	d := r.late(0)
	told(t, r.p.Tun(goes(t, 2, 0, 0)), hello(t, 2, d, 0, 3))
	if v := r.stat(1); v != (plane.Stat{Last: -1, Waits: 3}) {
		t.Errorf("Stat: %v", v)
	}
	r.tick(4999)
}
