package average

import (
	"math"

	"threshing/api"
)

const maxPeriod = math.MaxInt32

// Bell: P15.4. How many calls are left till it rings is kept, rather than how many there were: then the row is asked but once a round.
type Bell struct {
	period int64
	round  int64
	left   int64
}

// NewBell: P15.4.
func NewBell(period int64) (*Bell, api.Errno) {
	if period < 1 || period > maxPeriod {
		return nil, api.ErrArg
	}
	b := &Bell{period: period}
	b.begin()
	return b, api.OK
}

// begin begins the next round.
func (b *Bell) begin() {
	b.round++
	b.left = b.period * number(b.round)
}

// Tick: P15.4.
func (b *Bell) Tick() bool {
	if b == nil {
		return false
	}
	b.left--
	if b.left != 0 {
		return false
	}
	b.begin()
	return true
}

// Round: P15.4.
func (b *Bell) Round() int64 {
	if b == nil {
		return 0
	}
	return b.round
}
