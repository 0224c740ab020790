package ring

import (
	"continuo/api"
)

const (
	maxFrames = 2000
	maxSteps  = 5000
)

// Each kind of turn is one thing for the writer and its like for the reader.
const (
	kindSee = iota
	kindClaim
	kindFrame
	kindEnd
	kinds
)

const sides = 2

// play is a ring with a writer that has frames still to commit, and a reader that was done with some.
type play struct {
	ring   *Ring
	frames [][]int
	put    int     // how many of the claim
	got    [][]int // of what was taken
	read   [][]int
}

// turns are what each side does in a turn of each kind.
func turns() [sides][kinds]func(*play, int) {
	return [sides][kinds]func(*play, int){
		{kindSee: (*play).see, kindClaim: (*play).claim, kindFrame: (*play).putNext, kindEnd: (*play).commit},
		{kindSee: (*play).look, kindClaim: (*play).take, kindFrame: (*play).getNext, kindEnd: (*play).done},
	}
}

// Play lets the writer and the reader go on by turns, and returns what was read and how many frames are filled at the end.
func Play(size, channels, first int, frames [][]int, steps []api.Pass) (got [][]int, left int, e api.Errno) {
	p, e := fitted(func() *play {
		mustBeFrames(channels, frames...)
		r, e := New(size, channels, first)
		must(e == api.OK, e)
		mustBeTurns(steps)
		must(len(frames) <= maxFrames && len(steps) <= maxSteps, api.ErrLimit)
		p, all := &play{ring: r, frames: frames}, turns()
		for _, step := range steps {
			all[step.Who][step.Kind](p, step.N)
		}
		return p
	})
	if e != api.OK {
		return nil, 0, e
	}
	return p.read, p.ring.filled(), api.OK
}

func mustBeTurns(steps []api.Pass) {
	for _, step := range steps {
		must(step.Who >= 0 && step.Who < sides, api.ErrRange)
		must(step.Kind >= 0 && step.Kind < kinds, api.ErrRange)
		must(step.Kind != kindClaim || step.N >= 0, api.ErrRange)
	}
}

func (p *play) see(int) { p.ring.See() }

func (p *play) look(int) { p.ring.Look() }

// claim claims no more than the frames that are left. One that is not possible does nothing.
func (p *play) claim(n int) { p.ring.Claim(min(n, len(p.frames))) }

// take takes nothing where that is not possible.
func (p *play) take(n int) { p.ring.Take(n) }

func (p *play) putNext(int) {
	if claimed, _ := p.ring.Claimed(); p.put < claimed {
		p.ring.Put(p.put, p.frames[p.put])
		p.put++
	}
}

func (p *play) getNext(int) {
	if frame, e := p.ring.Get(len(p.got)); e == api.OK {
		p.got = append(p.got, frame)
	}
}

// commit leaves the frames to the ring; without a claim none was put.
func (p *play) commit(int) {
	p.ring.Commit(p.put)
	p.frames, p.put = p.frames[p.put:], 0
}

// done keeps the frames; without a taking none was got.
func (p *play) done(int) {
	p.ring.Done(len(p.got))
	p.read, p.got = append(p.read, p.got...), nil
}
