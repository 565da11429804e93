package par

import "sync"

// Stop is what a run is stopped by: see doc/26-par.md.
type Stop struct {
	end  chan struct{} // closed when it is stopped; nil: the stop is not there
	once *sync.Once    // by which it is closed
	lets *allowance
}

// allowance is how many rounds are let be; below 0: any number. Runs that go on at one time may draw on it.
type allowance struct {
	sync.Mutex
	rounds int
}

// NewStop: a stop that lets so many rounds be; below 0: any number. (P26.2)
func NewStop(rounds int) *Stop {
	return &Stop{make(chan struct{}), &sync.Once{}, &allowance{rounds: rounds}}
}

// there: only NewStop gives a stop its channel, so a zero struct has none.
func (s *Stop) there() bool { return s != nil && s.end != nil }

// Now: no further round begins. (P26.2)
func (s *Stop) Now() {
	if s.there() {
		s.once.Do(func() { close(s.end) })
	}
}

// Stopped: has it been stopped? (P26.2)
func (s *Stop) Stopped() bool {
	if !s.there() {
		return false
	}
	select {
	case <-s.end:
		return true
	default:
		return false
	}
}

// ask asks the stop for a round: false: it is stopped.
func (s *Stop) ask() bool {
	if !s.there() {
		return true
	}
	if s.Stopped() {
		return false
	}
	if !s.lets.take() {
		s.Now()
		return false
	}
	return true
}

// take lets one round fewer be; false: no more are let be.
func (a *allowance) take() bool {
	a.Lock()
	defer a.Unlock()
	if a.rounds > 0 {
		a.rounds--
		return true
	}
	return a.rounds < 0
}
