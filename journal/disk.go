package journal

import (
	"bytes"
	"maps"
	"slices"

	"weir/api"
	"weir/fault"
	"weir/key"
)

// Disk is files of bytes, durable ones and such as are not synced yet.
type Disk struct {
	capacity int
	files    map[string]*file
	fail     int  // which changing call from now on fails; 0: none
	stop     int  // with which one the power goes; 0: with none
	stopped  bool // it has gone
}

// file is what a disk has under a name: the first bytes of now, as many as durable says, stay through a crash.
type file struct {
	now     []byte
	durable int
}

// NewDisk is an empty disk of so many bytes.
func NewDisk(capacity int) (*Disk, error) { return Load(capacity, nil) }

// Load is one with these files.
func Load(capacity int, l []api.Image) (*Disk, error) {
	if capacity < 1 || capacity > api.MaxDisk {
		return nil, fault.New(api.ErrRange)
	}
	if len(l) > api.MaxFiles {
		return nil, fault.New(api.ErrFull)
	}
	d := &Disk{capacity: capacity, files: map[string]*file{}}
	for i, image := range l {
		if err := d.take(image); err != nil {
			return nil, fault.In(i, err)
		}
	}
	return d, nil
}

// take lets a file be there.
func (d *Disk) take(image api.Image) error {
	switch {
	case key.Name(image.Name) != nil:
		return fault.New(api.ErrName)
	case d.has(image.Name):
		return fault.New(api.ErrKnown)
	case !bytes.HasPrefix(image.Now, image.Durable):
		return fault.New(api.ErrForm)
	case len(image.Now) > d.Free():
		return fault.New(api.ErrFull)
	}
	d.files[image.Name] = &file{now: bytes.Clone(image.Now), durable: len(image.Durable)}
	return nil
}

// Images are its files.
func (d *Disk) Images() []api.Image {
	if d == nil {
		return nil
	}
	var l []api.Image
	for _, name := range slices.Sorted(maps.Keys(d.files)) {
		f := d.files[name]
		l = append(l, api.Image{Name: name, Durable: bytes.Clone(f.now[:f.durable]), Now: bytes.Clone(f.now)})
	}
	return l
}

// Fork is another one of the same.
func (d *Disk) Fork() *Disk {
	if d == nil {
		return nil
	}
	other := *d
	other.files = map[string]*file{}
	for name, f := range d.files {
		other.files[name] = &file{now: bytes.Clone(f.now), durable: f.durable}
	}
	return &other
}

// Read is a file's bytes.
func (d *Disk) Read(name string) ([]byte, error) {
	if d == nil {
		return nil, fault.New(api.ErrNil)
	}
	if !d.has(name) {
		return nil, fault.New(api.ErrFile)
	}
	return bytes.Clone(d.files[name].now), nil
}

// Free is how many more have room.
func (d *Disk) Free() int {
	if d == nil {
		return 0
	}
	free := d.capacity
	for _, f := range d.files {
		free -= len(f.now)
	}
	return free
}

// Fail makes the n-th changing call from now on fail.
func (d *Disk) Fail(n int) {
	if d != nil {
		d.fail = max(n, 0)
	}
}

// Stop makes that one fail and all behind it.
func (d *Disk) Stop(n int) {
	if d != nil {
		d.stop, d.stopped = max(n, 0), false
	}
}

// Crash takes power away and gives it back.
func (d *Disk) Crash(l []api.Fate) error {
	if d == nil {
		return fault.New(api.ErrNil)
	}
	kept := map[string]int{}
	for i, fate := range l {
		if err := d.mayMeet(fate, kept); err != nil {
			return fault.In(i, err)
		}
		kept[fate.Name] = fate.Keep
	}
	for name, f := range d.files {
		f.durable += kept[name]
		f.now = f.now[:f.durable]
	}
	d.Fail(0)
	d.Stop(0)
	return nil
}

// mayMeet tells why a fate may not be, behind others.
func (d *Disk) mayMeet(fate api.Fate, ahead map[string]int) error {
	if !d.has(fate.Name) {
		return fault.New(api.ErrFile)
	}
	f := d.files[fate.Name]
	if _, twice := ahead[fate.Name]; twice || fate.Keep < 0 || fate.Keep > len(f.now)-f.durable {
		return fault.New(api.ErrFate)
	}
	return nil
}

// has tells whether there is a file of a name.
func (d *Disk) has(name string) bool { return d.files[name] != nil }
