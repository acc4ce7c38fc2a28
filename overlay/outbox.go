package overlay

import "overlay/api"

// outbox is the frames that wait for the controller.
type outbox chan []byte

func newOutbox() outbox { return make(outbox, api.MaxOut) }

// lay lays a frame behind those that wait: it is lost, if there is no room, because nobody may be there to make some.
func (o outbox) lay(frame []byte) {
	select {
	case o <- frame:
	default:
	}
}

// next takes the first frame that waits, if there is one.
func (o outbox) next() ([]byte, bool) {
	select {
	case frame := <-o:
		return frame, true
	default:
		return nil, false
	}
}
