package plane

import (
	"slices"

	"adit/api"
	"adit/cookie"
	"adit/inner"
	"adit/noise"
	"adit/stamp"
	"adit/wire"
	"adit/words"
)

const (
	jitter = 334  // a Hello is sent again by fewer milliseconds later than it might be
	second = 1000 // milliseconds of a second
)

// begin begins with a peer, and tells whether a Hello is sent. It is the first attempt, if there is no handshake.
func (p *Plane) begin(x *peer) ([]Out, bool) {
	now := p.Now()
	switch {
	case x.said.within(api.RekeyTimeout, now):
		return nil, false
	case !x.end.there:
		return dropped(x.slot, api.ErrAddr), false
	case len(p.draws) == 0:
		return dropped(x.slot, api.ErrNone), false
	}
	draw := p.draw()
	// A plane's time is one, so that no error can come.
	label, _ := stamp.Write(now)
	state, m, e := noise.Begin(p.self, x.key, draw, label, p.count())
	if e != api.OK {
		return dropped(x.slot, e), false
	}
	hello := p.mark(x, wire.WriteHello(m))
	first := now
	if x.attempt != nil {
		first = x.attempt.first
	}
	// It is a Hello, so that no error can come.
	mac, _ := cookie.Mac1(hello)
	x.attempt = &attempt{state: state, mac: mac, first: first}
	x.said = moment{true, now}
	p.wheel.Set(x.slot, attemptTimer, now+api.RekeyTimeout+late(draw))
	return sent(x.end.end, hello), true
}

// pass passes a packet on to a peer.
func (p *Plane) pass(x *peer, packet []byte) []Out {
	if !x.end.there {
		return dropped(x.slot, api.ErrAddr)
	}
	now := p.Now()
	// Each packet was cut of one that is not too long, or has no bytes, so that no error can come; nor of a box that was sealed.
	filled, _ := inner.Fill(packet)
	sealed, m, e := x.slots.Seal(filled, now)
	if e != api.OK {
		return dropped(x.slot, e)
	}
	data, _ := wire.WriteData(m)
	x.slots = sealed
	outs := sent(x.end.end, data)
	p.wheel.Clear(x.slot, answerTimer)
	p.keepLater(x)
	x.counts.Tx += uint64(len(packet))
	if x.slots.Tired(now) {
		begun, _ := p.begin(x)
		outs = append(outs, begun...)
	}
	return slices.Clip(outs)
}

// flush passes on all packets that wait for a peer.
func (p *Plane) flush(x *peer) []Out {
	var outs []Out
	for _, packet := range p.yard.TakeAll(x.slot) {
		outs = append(outs, p.pass(x, packet.B)...)
	}
	return slices.Clip(outs)
}

// install installs keys that a peer and this side agreed on.
func (p *Plane) install(x *peer, keys noise.Keys, from api.End) {
	now := p.Now()
	// A plane's time is one, so that no error can come.
	x.slots, _ = x.slots.Install(keys, now)
	x.end = place{true, from}
	x.counts.Handshakes++
	x.counts.Last = now
}

// mark marks a handshake for a peer, with its cookie, if that is not too old.
func (p *Plane) mark(x *peer, b []byte) []byte {
	// They are a handshake's bytes, so that no error can come.
	var marked []byte
	if x.cookieAt.within(api.CookieAge, p.Now()) {
		marked, _ = cookie.MarkBoth(b, x.key, x.cookie)
	} else {
		marked, _ = cookie.Mark(b, x.key)
	}
	return marked
}

// keepLater sets the timer by which a peer hears of this side, if it wants that.
func (p *Plane) keepLater(x *peer) {
	stored, _, _ := p.store.Get(x.key)
	if stored.Keep != 0 {
		p.wheel.Set(x.slot, keepTimer, p.Now()+int64(stored.Keep)*second)
	}
}

// draw takes the first draw of those that wait; there is one.
func (p *Plane) draw() [32]byte {
	d := p.draws[0]
	p.draws = p.draws[1:]
	return d
}

// count is the next number of a handshake.
func (p *Plane) count() uint32 {
	p.number++
	return p.number
}

// late is how much later than it might be a Hello is sent again.
func late(draw [32]byte) int64 {
	// The last two bytes are there, so that no error can come.
	n, _ := words.Big(draw[:], len(draw)-2, 2)
	return int64(n % jitter)
}
