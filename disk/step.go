package disk

import (
	"strings"

	"almanac/api"
)

// Create makes an empty file: P8.2.
func (d *Disk) Create(name string) api.Errno {
	if err := d.usable(name); err != api.OK {
		return err
	}
	files := d.kept.files
	switch {
	case files[name] != nil:
		return api.ErrThere
	case len(files) >= api.MaxFiles:
		return api.ErrFull
	}
	return d.kept.step(func() { files[strings.Clone(name)] = &file{} })
}

// Append adds b at the end of a file: P8.2. The files may have more bytes than the quota already: then there is no room for an empty b, either.
func (d *Disk) Append(name string, b []byte) api.Errno {
	f, err := d.file(name)
	switch {
	case err != api.OK:
		return err
	case len(b) > d.kept.quota-d.kept.used():
		return api.ErrFull
	}
	return d.kept.step(func() { f.bytes = append(f.bytes, b...) })
}

// Sync makes all bytes of a file durable: P8.2.
func (d *Disk) Sync(name string) api.Errno {
	f, err := d.file(name)
	if err != api.OK {
		return err
	}
	return d.kept.step(f.sync)
}

// Rename gives a file the name to, in place of any other file that has it: P8.2.
func (d *Disk) Rename(name, to string) api.Errno {
	if err := d.usable(name, to); err != api.OK {
		return err
	}
	f, err := d.file(name)
	if err != api.OK {
		return err
	}
	files := d.kept.files
	return d.kept.step(func() {
		delete(files, name) // first, since to may be the same name
		files[strings.Clone(to)] = f
	})
}

// Truncate cuts a file to its first size bytes: P8.2.
func (d *Disk) Truncate(name string, size int) api.Errno {
	f, err := d.file(name)
	switch {
	case err != api.OK:
		return err
	case size < 0 || size > len(f.bytes):
		return api.ErrArg
	}
	return d.kept.step(func() { f.cut(size) })
}

// Remove removes a file: P8.2.
func (d *Disk) Remove(name string) api.Errno {
	if _, err := d.file(name); err != api.OK {
		return err
	}
	return d.kept.step(func() { delete(d.kept.files, name) })
}

// step carries out a step, unless the fuse has burnt down: then the power goes off instead.
func (c *contents) step(carryOut func()) api.Errno {
	switch {
	case c.fuse == 0:
		c.fuse, c.off = noFuse, true
		return api.ErrOff
	case c.fuse > 0:
		c.fuse--
	}
	carryOut()
	return api.OK
}
