package wire

import "overlay/api"

// Resume is the frame that tells where an agent stands.
func Resume(v uint64) []byte { return sealVersion(api.FrameResume, v) }

// Ack is the frame that acknowledges a version.
func Ack(v uint64) []byte { return sealVersion(api.FrameAck, v) }

// Error is the frame that tells a fault's kind.
func Error(kind api.Errno) []byte { return Seal(api.FrameError, []byte{byte(kind)}) }

// Want is the frame that asks for a piece of a state.
func Want(piece int) []byte { return Seal(api.FrameWant, []byte{byte(piece)}) }

// sealVersion makes a frame of a kind, and of a version.
func sealVersion(kind byte, v uint64) []byte {
	return Seal(kind, AppendNumber(nil, v, versionBytes))
}
