package plane

import (
	"slices"

	"adit/api"
	"adit/blake"
	"adit/cidr"
	"adit/cookie"
	"adit/inner"
	"adit/noise"
	"adit/stamp"
	"adit/wire"
	"adit/words"
)

// Udp takes a datagram of the net.
func (p *Plane) Udp(from api.End, b []byte) []Out {
	if p.none() {
		return nil
	}
	kind, e := wire.Kind(b)
	if e != api.OK {
		return dropped(0, e)
	}
	if _, e := cidr.PrintEnd(from); e != api.OK {
		return dropped(0, api.ErrAddr)
	}
	// Each message is read as the kind that it is of, so that no error can come.
	switch kind {
	case wire.Cookie:
		m, _ := wire.ReadCookie(b)
		return p.cookie(m)
	case wire.Data:
		m, _ := wire.ReadData(b)
		return p.data(from, m)
	}
	if refused := p.guard(from, b); len(refused) > 0 {
		return refused
	}
	if kind == wire.Hello {
		m, _ := wire.ReadHello(b)
		return p.hello(from, m)
	}
	m, _ := wire.ReadAnswer(b)
	return p.answer(from, m)
}

// guard tells why a handshake is not heard; nothing, if it is.
func (p *Plane) guard(from api.End, b []byte) []Out {
	if !cookie.Check1(b, p.public) {
		return dropped(0, api.ErrMac)
	}
	if !p.load {
		return nil
	}
	// The end has a text, so that no error can come.
	proof, _ := cookie.Make(p.cookieSecret(), from)
	if !cookie.Check2(b, proof) {
		return p.ask(from, b, proof)
	}
	through, e := p.limiter.Allow(from.Addr, p.Now())
	switch {
	case e != api.OK:
		return dropped(0, e)
	case !through:
		return dropped(0, api.ErrRate)
	}
	return nil
}

// ask tells whoever sent a handshake the cookie that is to prove where it comes from.
func (p *Plane) ask(from api.End, b []byte, proof [16]byte) []Out {
	if len(p.draws) == 0 {
		return dropped(0, api.ErrNone)
	}
	draw := p.draw()
	// They are a handshake's bytes, so that no error can come.
	m, _ := cookie.Tell(b, p.public, [24]byte(draw[:24]), proof)
	return slices.Concat(sent(from, wire.WriteCookie(m)), dropped(0, api.ErrLoad))
}

// cookieSecret is the secret of the cookies that are right now.
func (p *Plane) cookieSecret() [32]byte {
	age := words.Put64(uint64(p.Now() / api.CookieAge))
	return blake.Sum32(slices.Concat(p.self[:], age[:]))
}

// hello hears a Hello, and answers it.
func (p *Plane) hello(from api.End, m wire.HelloMsg) []Out {
	state, label, e := noise.Hear(p.self, m)
	if e != api.OK {
		return dropped(0, e)
	}
	stored, _, there := p.store.Get(state.Other)
	x := p.find(state.Other)
	switch {
	case !there || x == nil:
		return dropped(0, api.ErrKey)
	case !stamp.After(label, x.label):
		return dropped(x.slot, api.ErrStale)
	case len(p.draws) == 0:
		return dropped(x.slot, api.ErrNone)
	}
	keys, answer, e := noise.Reply(state, stored.Shared, p.draw(), p.count())
	if e != api.OK {
		return dropped(x.slot, e)
	}
	x.label = label
	p.install(x, keys, from)
	return sent(from, p.mark(x, wire.WriteAnswer(answer)))
}

// answer hears an Answer, behind which there are keys.
func (p *Plane) answer(from api.End, m wire.AnswerMsg) []Out {
	x := p.begun(m.Receiver)
	if x == nil {
		return dropped(0, api.ErrIndex)
	}
	stored, _, _ := p.store.Get(x.key)
	keys, e := noise.Finish(x.attempt.state, p.self, stored.Shared, m)
	if e != api.OK {
		return dropped(x.slot, e)
	}
	x.attempt = nil
	p.wheel.Clear(x.slot, attemptTimer)
	p.install(x, keys, from)
	if p.yard.Waits(x.slot) == 0 {
		return p.pass(x, nil)
	}
	return p.flush(x)
}

// cookie hears a Cookie.
func (p *Plane) cookie(m wire.CookieMsg) []Out {
	x := p.begun(m.Receiver)
	if x == nil {
		return dropped(0, api.ErrIndex)
	}
	told, e := cookie.Hear(m, x.key, x.attempt.mac)
	if e != api.OK {
		return dropped(x.slot, e)
	}
	x.cookie, x.cookieAt = told, moment{true, p.Now()}
	return nil
}

// data opens a Data.
func (p *Plane) data(from api.End, m wire.DataMsg) []Out {
	x := p.first(func(x *peer) bool { return slices.Contains(x.slots.Indices(), m.Receiver) })
	if x == nil {
		return dropped(0, api.ErrIndex)
	}
	opened, plain, fresh, e := x.slots.Open(m, p.Now())
	if e != api.OK {
		return dropped(x.slot, e)
	}
	x.slots, x.end = opened, place{true, from}
	x.counts.Rx += uint64(len(plain))
	var outs []Out
	if fresh {
		outs = p.flush(x)
	}
	if len(plain) > 0 {
		outs = append(outs, p.deliver(x, plain)...)
	}
	return slices.Clip(outs)
}

// deliver delivers a packet that a peer sealed, if it is the peer's.
func (p *Plane) deliver(x *peer, plain []byte) []Out {
	packet, e := inner.Cut(plain)
	if e != api.OK {
		return dropped(x.slot, e)
	}
	// What was cut is a packet, so that no error can come.
	head, _ := inner.Read(packet)
	if k, owned := p.store.Owner(head.From); !owned || k != x.key {
		return dropped(x.slot, api.ErrSource)
	}
	x.counts.Sizes = x.counts.Sizes.Note(float64(len(packet)))
	if _, set := p.wheel.Get(x.slot, answerTimer); !set {
		p.wheel.Set(x.slot, answerTimer, p.Now()+api.Keepalive)
	}
	return []Out{{Kind: Deliver, B: packet, Slot: x.slot}}
}

// begun is the peer with which this side began a handshake of a number; nil, if there is none.
func (p *Plane) begun(number uint32) *peer {
	return p.first(func(x *peer) bool { return x.attempt != nil && x.attempt.state.Local == number })
}
