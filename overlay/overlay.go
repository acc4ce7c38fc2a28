// Package overlay: the agent of an overlay network on a host: see DOC.md.
package overlay

import (
	"overlay/api"
	"overlay/datapath"
	"overlay/wire"
)

// Encode tells a delta as bytes (P3).
func Encode(d api.Delta) ([]byte, error) { return wire.Encode(d) }

// Decode tells the delta that bytes are (P4).
func Decode(b []byte) (api.Delta, error) { return wire.Decode(b) }

// EncodeAll tells a version and tables as bytes (P8).
func EncodeAll(v uint64, t *Tables) ([]byte, error) {
	return wire.EncodeAll(v, listOf(t))
}

// DecodeAll tells the version and the tables that bytes are (P8).
func DecodeAll(b []byte) (uint64, *Tables, error) {
	v, list, err := wire.DecodeAll(b)
	if err != nil {
		return 0, nil, err
	}
	return v, &Tables{entries{list}}, nil
}

// Seal makes a frame (P5).
func Seal(kind byte, body []byte) []byte { return wire.Seal(kind, body) }

// Unseal takes a frame apart (P5).
func Unseal(frame []byte) (byte, []byte, error) { return wire.Unseal(frame) }

// Reconcile brings a datapath to tables (P9).
func Reconcile(p api.Datapath, t *Tables) error { return datapath.Reconcile(p, listOf(t)) }
