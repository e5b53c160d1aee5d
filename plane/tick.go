package plane

import (
	"slices"

	"adit/api"
	"adit/stamp"
	"adit/wheel"
)

// Tick lets the time go on.
func (p *Plane) Tick(t int64) ([]Out, api.Errno) {
	if p.none() {
		return nil, api.ErrNil
	}
	if span, e := stamp.Span(p.Now(), t); e != api.OK || span > mostStep {
		return nil, api.ErrArg
	}
	var outs []Out
timers:
	for {
		next, some := p.wheel.Next()
		if !some || next.At > t {
			break timers
		}
		// No timer is set to a time that the wheel has left, so that no error can come.
		due, _ := p.wheel.Advance(next.At)
		for _, timer := range due {
			outs = append(outs, p.due(timer)...)
		}
	}
	// None is due any more: the time alone goes on.
	p.wheel.Advance(t)
	for _, x := range p.peers {
		if x != nil {
			x.slots = x.slots.Expire(t)
		}
	}
	return slices.Clip(outs), api.OK
}

// due does what is due by a timer of a slot.
func (p *Plane) due(timer wheel.Timer) []Out {
	x := p.peers[timer.Owner]
	switch timer.Kind {
	case attemptTimer:
		return p.again(x)
	case answerTimer:
		if x.slots.Ready(p.Now()) {
			return p.pass(x, nil)
		}
	case keepTimer:
		return p.keep(x)
	}
	return nil
}

// again tries a handshake again, unless it was tried for too long.
func (p *Plane) again(x *peer) []Out {
	switch {
	case x.attempt == nil:
		return nil
	case p.Now()-x.attempt.first >= api.RekeyAttempt:
		x.attempt = nil
		if p.yard.Drop(x.slot) == 0 {
			return nil
		}
		return dropped(x.slot, api.ErrOld)
	}
	x.said = moment{}
	outs, begun := p.begin(x)
	if !begun {
		x.attempt = nil
	}
	return outs
}

// keep lets a peer hear of this side.
func (p *Plane) keep(x *peer) []Out {
	var outs []Out
	switch {
	case x.slots.Ready(p.Now()):
		outs = p.pass(x, nil)
	case x.attempt == nil:
		outs, _ = p.begin(x)
	}
	p.keepLater(x)
	return outs
}
