package works

import (
	"slices"

	"canting/api"
)

// maxDisk is the largest size of a disk.
const maxDisk = 1_000_000

// noFuse is the fuse of a power that does not go off.
const noFuse = -1

// power is what a disk needs for its operations.
type power struct {
	isOff bool
	fuse  int // after how many more operations it goes off
}

// restore turns the power on, without a fuse.
func (p *power) restore() {
	*p = power{fuse: noFuse}
}

// limit lets the power go off after some more operations.
func (p *power) limit(operations int) {
	if !p.isOff {
		p.fuse = max(operations, noFuse)
	}
}

// spend is called for each operation, which is done only if it returns OK.
func (p *power) spend() api.Errno {
	if p.fuse == 0 {
		p.isOff = true
	}
	if p.isOff {
		return api.ErrPower
	}
	if p.fuse != noFuse {
		p.fuse--
	}
	return api.OK
}

// Disk keeps bytes over power losses.
type Disk struct {
	power
	self  *Disk // the Disk itself, if NewDisk made it: not in a copy
	size  int
	bytes []byte
	safe  int // how many of the bytes are safe
}

// NewDisk returns an empty disk.
func NewDisk(size int) (*Disk, api.Errno) {
	if !isBetween(size, 1, maxDisk) {
		return nil, api.ErrArg
	}
	d := &Disk{size: size}
	d.self = d
	d.restore()
	return d, api.OK
}

// isMade reports whether d is what NewDisk has returned.
func (d *Disk) isMade() bool {
	return d != nil && d.self == d
}

// room returns how many more bytes the disk can keep.
func (d *Disk) room() int {
	return d.size - len(d.bytes)
}

// keep leaves the first n bytes, which are safe then.
func (d *Disk) keep(n int) {
	d.bytes = d.bytes[:n]
	d.safe = n
}

// Append adds bytes.
func (d *Disk) Append(b []byte) api.Errno {
	if !d.isMade() {
		return api.ErrNil
	}
	if len(b) > d.room() {
		return api.ErrFull
	}
	if e := d.spend(); e != api.OK {
		return e
	}
	d.bytes = append(d.bytes, b...)
	return api.OK
}

// Sync makes all bytes safe.
func (d *Disk) Sync() api.Errno {
	if !d.isMade() {
		return api.ErrNil
	}
	if e := d.spend(); e != api.OK {
		return e
	}
	d.keep(len(d.bytes))
	return api.OK
}

// Cut keeps the first n bytes.
func (d *Disk) Cut(n int) api.Errno {
	if !d.isMade() {
		return api.ErrNil
	}
	if !isBetween(n, 0, len(d.bytes)) {
		return api.ErrArg
	}
	if e := d.spend(); e != api.OK {
		return e
	}
	d.keep(n)
	return api.OK
}

// Read returns the bytes.
func (d *Disk) Read() ([]byte, api.Errno) {
	if !d.isMade() {
		return nil, api.ErrNil
	}
	if d.isOff {
		return nil, api.ErrPower
	}
	return slices.Clone(d.bytes), api.OK
}

// Fuse cuts the power after k more operations.
func (d *Disk) Fuse(k int) {
	if d.isMade() {
		d.limit(k)
	}
}

// Crash keeps some of the bytes that are not safe, and turns the power on.
func (d *Disk) Crash(keep int) {
	if !d.isMade() {
		return
	}
	loose := len(d.bytes) - d.safe
	d.keep(d.safe + min(max(keep, 0), loose))
	d.restore()
}
