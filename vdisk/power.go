package vdisk

import "hustings/api"

// unlimited: a fuse that is none.
const unlimited = -1

// power: how many more changes the fuse bears, and whether it has burnt through.
//
// A fuse at 0 is not yet gone: it goes with the first change that finds it so, and no other fuse brings the power back.
type power struct {
	fuse int
	gone bool
}

// fresh: the power is there, without a fuse.
func fresh() power {
	return power{fuse: unlimited}
}

// setFuse: the fuse bears n more changes.
func (p *power) setFuse(n int) {
	p.fuse = max(n, unlimited)
}

// spend: uses up one change, or tells that there is no power for it.
func (p *power) spend() api.Errno {
	if p.fuse == 0 {
		p.gone = true
	}
	if p.gone {
		return api.ErrPower
	}
	if p.fuse > 0 {
		p.fuse--
	}
	return api.OK
}
