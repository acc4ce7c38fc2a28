package overlay

import (
	"errors"

	"overlay/api"
	"overlay/datapath"
	"overlay/entry"
	"overlay/store"
	"overlay/wire"
)

// Agent takes deltas from a controller.
type Agent struct {
	entries
	version uint64
	store   *store.Store
	path    api.Datapath
	state   incoming
	out     outbox
	why     api.Fault // why it is degraded (OK: it is not)
}

// Start begins from what a disk holds (P10).
func Start(d api.Disk, p api.Datapath) (*Agent, error) {
	s, version, list, err := store.Open(d)
	if err != nil {
		return nil, err
	}
	if err := datapath.Reconcile(p, list); err != nil {
		return nil, err
	}
	a := &Agent{entries: entries{list}, version: version, store: s, path: p, out: newOutbox()}
	a.tellStand()
	return a, nil
}

// Receive takes a frame from the controller (P11, P12).
func (a *Agent) Receive(frame []byte) {
	if a.isDegraded() {
		a.tellFault(api.ErrDegraded)
		return
	}
	if err := a.take(frame); err != nil {
		a.tellFault(faultOf(err).Kind)
		a.tellStand()
	}
}

// Tick: time has gone by (P11).
func (a *Agent) Tick() {
	switch {
	case a.isDegraded():
		a.tellFault(api.ErrDegraded)
	case a.state.comes():
		a.tellWant()
	default:
		a.tellStand()
	}
}

// Next takes the next frame to the controller (P11).
func (a *Agent) Next() ([]byte, bool) { return a.out.next() }

// Version tells which version the tables have (P11).
func (a *Agent) Version() uint64 { return a.version }

// Degraded tells why nothing is taken any more (P13).
func (a *Agent) Degraded() error {
	if !a.isDegraded() {
		return nil
	}
	why := a.why // a copy: the caller may write into it
	return &why
}

func (a *Agent) isDegraded() bool { return a.why.Kind != api.OK }

// takeIn makes a version and its entries the agent's, once they are kept. If there is no room for them, or they can't be kept, it degrades the agent.
func (a *Agent) takeIn(version uint64, list entry.List, keep func() error) {
	err := a.noRoom(list)
	if err == nil {
		err = keep()
	}
	if err != nil {
		a.degrade(err)
		return
	}
	a.list = list
	datapath.Bring(a.path, list)
	a.version = version
	a.tellAck()
}

// degrade lets the agent take nothing any more.
func (a *Agent) degrade(why error) {
	a.why = faultOf(why)
	a.tellFault(a.why.Kind)
}

// noRoom is why entries may not be the agent's, if so.
func (a *Agent) noRoom(list entry.List) error {
	if err := datapath.Full(a.path, list); err != nil {
		return err
	}
	if list.Size() > a.store.Room() {
		return &api.Fault{Kind: api.ErrRoom}
	}
	return nil
}

// faultOf is a copy of the Fault that an error of the program is.
func faultOf(err error) api.Fault {
	var f *api.Fault
	if !errors.As(err, &f) {
		return api.Fault{}
	}
	return *f
}

func (a *Agent) tellStand()               { a.out.lay(wire.Resume(a.version)) }
func (a *Agent) tellAck()                 { a.out.lay(wire.Ack(a.version)) }
func (a *Agent) tellFault(kind api.Errno) { a.out.lay(wire.Error(kind)) }
func (a *Agent) tellWant()                { a.out.lay(wire.Want(a.state.next)) }
