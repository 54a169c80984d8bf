package journal

import (
	"weir/api"
	"weir/fault"
	"weir/key"
)

// refusal is a call of a disk that was not done.
type refusal struct {
	call, name string
	err        error
}

// Error tells which call of which file it is, and why.
func (r refusal) Error() string { return r.call + " " + r.name + ": " + r.err.Error() }

// Unwrap is why.
func (r refusal) Unwrap() error { return r.err }

// Create makes a file without bytes.
func (d *Disk) Create(name string) error {
	return d.change("create", name, func() api.Errno {
		switch {
		case key.Name(name) != nil:
			return api.ErrName
		case d.has(name):
			return api.ErrKnown
		case len(d.files) >= api.MaxFiles:
			return api.ErrFull
		}
		return 0
	}, func() { d.files[name] = &file{} })
}

// Append puts bytes behind a file.
func (d *Disk) Append(name string, b []byte) error {
	return d.change("append", name, func() api.Errno {
		switch {
		case !d.has(name):
			return api.ErrFile
		case len(b) > d.Free():
			return api.ErrFull
		}
		return 0
	}, func() { d.files[name].now = append(d.files[name].now, b...) })
}

// Sync makes durable what a file has.
func (d *Disk) Sync(name string) error {
	return d.change("sync", name, func() api.Errno { return d.missing(name) }, func() {
		d.files[name].durable = len(d.files[name].now)
	})
}

// Rename gives a file another name, for ever; what had that name is gone.
func (d *Disk) Rename(old, now string) error {
	return d.change("rename", old, func() api.Errno {
		if d.has(old) && key.Name(now) != nil {
			return api.ErrName
		}
		return d.missing(old)
	}, func() {
		f := d.files[old]
		delete(d.files, old)
		d.files[now] = f
	})
}

// Remove takes a file away, for ever.
func (d *Disk) Remove(name string) error {
	return d.change("remove", name, func() api.Errno { return d.missing(name) }, func() { delete(d.files, name) })
}

// change does a changing call, if nothing speaks against it and the disk does not fail.
func (d *Disk) change(call, name string, against func() api.Errno, do func()) error {
	if d == nil {
		return fault.New(api.ErrNil)
	}
	e := against()
	if e == 0 && d.fails() {
		e = api.ErrIO
	}
	if e != 0 {
		return refusal{call, name, fault.New(e)}
	}
	do()
	return nil
}

// fails counts a changing call, and tells whether it is one that fails.
func (d *Disk) fails() bool {
	failed := d.fail == 1
	d.fail = max(d.fail-1, 0)
	d.stopped = d.stopped || d.stop == 1
	d.stop = max(d.stop-1, 0)
	return failed || d.stopped
}

// missing is the error of a call of a file that is not there.
func (d *Disk) missing(name string) api.Errno {
	if d.has(name) {
		return 0
	}
	return api.ErrFile
}
