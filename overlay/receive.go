package overlay

import (
	"overlay/api"
	"overlay/wire"
)

// take answers a frame, or, with an error, leaves the answer to the caller.
func (a *Agent) take(frame []byte) error {
	kind, body, err := wire.Unseal(frame)
	if err != nil {
		return err
	}
	switch kind {
	case api.FrameDelta:
		return a.takeDelta(body)
	case api.FrameAsk:
		return a.takeAsk(body)
	case api.FrameBegin:
		return a.takeBegin(body)
	case api.FramePiece:
		return a.takePiece(body)
	}
	return &api.Fault{Kind: api.ErrKind}
}

// takeAsk answers the body of a FrameAsk.
func (a *Agent) takeAsk(body []byte) error {
	if len(body) > 0 {
		return &api.Fault{Kind: api.ErrMore}
	}
	a.tellStand()
	return nil
}

// takeDelta answers the body of a FrameDelta.
func (a *Agent) takeDelta(body []byte) error {
	d, err := wire.Decode(body)
	if err != nil {
		return err
	}
	switch {
	case d.Version <= a.version:
		a.tellAck()
	case d.Version > a.version+1:
		a.tellStand()
	default:
		after := a.list.After(d.Ops)
		a.takeIn(d.Version, after, func() error { return a.store.KeepDelta(body, d.Version, after) })
	}
	return nil
}

// takeBegin answers the body of a FrameBegin.
func (a *Agent) takeBegin(body []byte) error {
	version, pieces, err := wire.DecodeBegin(body)
	if err != nil {
		return err
	}
	if version <= a.version {
		a.tellAck()
		return nil
	}
	a.state = incoming{version: version, pieces: pieces}
	a.tellWant()
	return nil
}

// takePiece answers the body of a FramePiece.
func (a *Agent) takePiece(body []byte) error {
	n, piece, err := wire.DecodePiece(body)
	if err != nil {
		return err
	}
	if !a.state.comes() {
		a.tellStand()
		return nil
	}
	if n == a.state.next {
		a.state.keep(piece)
	}
	if a.state.comes() {
		a.tellWant()
		return nil
	}
	return a.takeState()
}

// takeState answers the last piece of a state.
func (a *Agent) takeState() error {
	s := a.state
	a.state = incoming{}
	list, err := s.entries()
	if err != nil {
		return err
	}
	if s.version <= a.version { // deltas may have come meanwhile
		a.tellAck()
		return nil
	}
	a.takeIn(s.version, list, func() error { return a.store.KeepState(s.version, list) })
	return nil
}
