package peer

import (
	"bytes"

	"bayou/api"
	"bayou/blake"
	"bayou/wire"
)

// hearPropose agrees to what the other side proposes, or refuses it. Where both propose at once, side 1 gives way, or neither would.
func (p *Peer) hearPropose(m wire.Msg) ([]wire.Msg, error) {
	n := p.now.Number
	switch {
	case m.Number <= n:
		return nil, api.ErrOld
	case m.Number != n+1:
		return nil, api.ErrState
	case p.step == agreed && p.lock == m.Lock && bytes.Equal(wire.EncodeOp(p.op), wire.EncodeOp(m.Op)):
		return p.last(), nil
	case p.step == agreed, p.step == committed, p.step == proposed && p.side == 0:
		return nil, api.ErrState
	case m.Lock == (api.Hash{}):
		return nil, api.ErrArg
	}
	next, err := p.behind(p.now, 1-p.side, m.Op, m.Lock)
	if err != nil {
		return []wire.Msg{{Kind: wire.Refuse, Number: m.Number}}, nil
	}
	if err := p.lay(stand{now: p.now, step: agreed, op: cloneOp(m.Op), next: next, lock: m.Lock}); err != nil {
		return nil, err
	}
	p.sign(p.next, p.lock)
	return p.last(), nil
}

// hearAgree goes over to what was proposed, once the other side has signed that it can be gone out by.
func (p *Peer) hearAgree(m wire.Msg) ([]wire.Msg, error) {
	n := p.now.Number
	switch {
	case m.Number == n && p.step == committed:
		return p.last(), nil
	case m.Number != n+1, p.step != proposed:
		return nil, api.ErrState
	case m.Lock == (api.Hash{}):
		return nil, api.ErrArg
	case !p.signed(p.next):
		return nil, api.ErrSign
	}
	if err := p.lay(stand{now: p.next, step: committed}, reach(p.next, m.Lock)...); err != nil {
		return nil, err
	}
	p.sign(p.now, m.Lock)
	return p.last(), nil
}

// hearCommit goes over to what was agreed to: the other side can't go back any more, as its secret is known.
func (p *Peer) hearCommit(m wire.Msg) ([]wire.Msg, error) {
	n := p.now.Number
	if _, err := p.Known(n - 1); err == nil && m.Number == n {
		return p.done(), nil
	}
	switch {
	case m.Number != n+1, p.step != agreed:
		return nil, api.ErrState
	case !p.opens(n, m.Secret):
		return nil, api.ErrHash
	case !p.signed(p.next):
		return nil, api.ErrSign
	}
	if err := p.lay(stand{now: p.next}, append(reach(p.next, p.lock), learn(n, m.Secret))...); err != nil {
		return nil, err
	}
	return p.done(), nil
}

// hearDone learns the secret of what the other side has left.
func (p *Peer) hearDone(m wire.Msg) error {
	n := p.now.Number
	switch {
	case p.step != committed:
		return nil
	case m.Number != n:
		return api.ErrState
	case !p.opens(n-1, m.Secret):
		return api.ErrHash
	}
	return p.lay(stand{now: p.now}, learn(n-1, m.Secret))
}

// hearRefuse gives up what was proposed.
func (p *Peer) hearRefuse(m wire.Msg) error {
	if p.step != proposed || m.Number != p.now.Number+1 {
		return nil
	}
	return p.lay(stand{now: p.now})
}

// opens tells whether a secret is the other side's of a number.
func (p *Peer) opens(number int, secret []byte) bool {
	lock, err := p.Theirs(number)
	return err == nil && blake.Sum(secret) == lock
}

// last is what was told last, of what is under way. It hangs on where the side stands alone, so that one that crashed tells the same.
func (p *Peer) last() []wire.Msg {
	n := p.now.Number
	switch p.step {
	case proposed:
		return []wire.Msg{{Kind: wire.Propose, Number: n + 1, Op: cloneOp(p.op), Lock: Lock(p.seed, n+1)}}
	case agreed:
		return []wire.Msg{{Kind: wire.Agree, Number: n + 1, Lock: Lock(p.seed, n+1)}}
	case committed:
		return p.leave(wire.Commit)
	}
	return nil
}

// done tells that a number is reached.
func (p *Peer) done() []wire.Msg { return p.leave(wire.Done) }

// leave tells the secret of the number ahead, which the side has left for good, as its own is laid down.
func (p *Peer) leave(kind int) []wire.Msg {
	n := p.now.Number
	return []wire.Msg{{Kind: kind, Number: n, Secret: Secret(p.seed, n-1)}}
}
