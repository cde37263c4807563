package peer

import (
	"strconv"
	"strings"

	"bayou/api"
	"bayou/enc"
	"bayou/shelf"
	"bayou/state"
	"bayou/wire"
)

// Keys of what is kept. Those of the last three have a number behind them.
const (
	nowKey    = "now"
	stepKey   = "step"
	stateKey  = "state/"
	lockKey   = "lock/"
	secretKey = "secret/"
)

const digits = 13 // of a number in a key: as many as the greatest one of a state has

// key is the key of something that has a number.
func key(kind string, number int) string {
	text := strconv.Itoa(number)
	return kind + strings.Repeat("0", max(0, digits-len(text))) + text
}

// reach are the changes by which a side has a state, and the other side's lock of it.
func reach(s state.State, lock api.Hash) []shelf.Change {
	return []shelf.Change{
		{Key: nowKey, Value: string(enc.New().Uint(uint64(s.Number)).Done())},
		{Key: key(stateKey, s.Number), Value: string(state.Encode(s))},
		{Key: key(lockKey, s.Number), Value: string(lock[:])},
	}
}

// learn is the change by which a side knows the other side's secret of a number.
func learn(number int, secret []byte) shelf.Change {
	return shelf.Change{Key: key(secretKey, number), Value: string(secret)}
}

// lay lays down where the side stands from now on, with all that changes with it, in one Set. Any error of it stops the side, as it may neither sign nor tell what it has not laid down.
func (p *Peer) lay(to stand, more ...shelf.Change) error {
	step := enc.New().Uint(uint64(to.step)).Bytes(wire.EncodeOp(to.op)).Hash(to.lock).Done()
	if p.dead = p.shelf.Set(append(more, shelf.Change{Key: stepKey, Value: string(step)})); p.dead != nil {
		return p.dead
	}
	p.stand = to
	return nil
}

// load takes up where the side stood.
func (p *Peer) load() error {
	text, _ := p.shelf.Get(nowKey)
	r := enc.Read([]byte(text))
	n := int(r.Uint(api.MaxHeight))
	now, none := p.Old(n)
	lock, open := p.Theirs(n)
	if r.Done() != nil || none != nil || open != nil || p.fits(now, lock) != nil {
		return api.ErrHalt
	}
	to, err := p.readStep(now)
	if err != nil {
		return api.ErrHalt
	}
	p.stand = to
	return nil
}

// readStep is where a side with a state stands. What can't be done could be neither told nor signed, so it can't have been kept.
func (p *Peer) readStep(now state.State) (stand, error) {
	text, _ := p.shelf.Get(stepKey)
	r := enc.Read([]byte(text))
	to := stand{now: now, step: int(r.Uint(committed))}
	op, lock := r.Bytes(api.PageSize), r.Hash()
	if err := r.Done(); err != nil {
		return stand{}, err
	}
	who := p.side
	switch to.step {
	case idle:
		return to, nil
	case committed:
		if now.Number == 0 {
			return stand{}, api.ErrHalt // nothing is ahead of it that could have been left
		}
		return to, nil
	case proposed:
		lock = anyLock()
	case agreed:
		who, to.lock = 1-p.side, lock
	}
	var err error
	if to.op, err = readOp(op); err != nil {
		return stand{}, err
	}
	to.next, err = p.behind(now, who, to.op, lock)
	return to, err
}

// readOp is what is done, of its bytes. It lets longer secrets by than those of layer 15 do, whose bound is that of a message: a side keeps whatever may be done.
func readOp(b []byte) (wire.Op, error) {
	r := enc.Read(b)
	o := wire.Op{Kind: r.Int(), Amount: r.Int(), ID: r.Int()}
	o.Pay = state.Pay{ID: r.Int(), From: r.Int(), Amount: r.Int(), After: r.Int(), Lock: r.Hash()}
	o.Secret = r.Bytes(api.PageSize)
	return o, r.Done()
}
