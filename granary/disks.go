package granary

import (
	"granary/acts"
	"granary/api"
	"granary/disk"
)

// hasNode tells whether a node has that number.
func (m *Machine) hasNode(number int) bool { return number >= 0 && number < len(m.hosts) }

// diskOf is the disk for which a number stands.
func (m *Machine) diskOf(number int) (*disk.Disk, api.Errno) {
	switch {
	case number == depotNumber:
		return m.depot, api.OK
	case number == deskNumber:
		return m.desk, api.OK
	case m.hasNode(number):
		return m.hosts[number].disk, api.OK
	}
	return nil, api.ErrNode
}

// disks are all of them, in the order in which they are filled.
func (m *Machine) disks() []*disk.Disk {
	list := []*disk.Disk{m.depot, m.desk}
	for _, h := range m.hosts {
		list = append(list, h.disk)
	}
	return list
}

// halt takes down what is up on the disk for which a number stands; ErrOff: nothing is.
func (m *Machine) halt(number int) api.Errno {
	switch {
	case number == deskNumber:
		return m.control.Halt()
	case m.hasNode(number):
		return m.hosts[number].Halt()
	}
	return api.ErrOff
}

// fill lays things down on a new disk, till one is refused.
func fill(d *disk.Disk, things []api.Stored) api.Errno {
	for _, t := range things {
		if e := lay(d, t); e != api.OK {
			return e
		}
	}
	return api.OK
}

func lay(d *disk.Disk, t api.Stored) api.Errno {
	switch t.Kind {
	case api.IsDir:
		return d.Mkdir(t.Path)
	case api.IsFile:
		return acts.Run(acts.On(t.Path, d.Create), acts.On(t.Path, acts.With(d.Append, t.Data)))
	}
	return api.ErrArg
}

// settle makes all that a disk holds safe. A disk that was just filled is up and not armed: it refuses nothing.
func settle(d *disk.Disk) {
	d.SyncDir("")
	for _, t := range d.Dump() {
		if t.Kind == api.IsDir {
			d.SyncDir(t.Path)
		} else {
			d.Sync(t.Path)
		}
	}
}
