// Package overlay: the agent of an overlay network on a host: see DOC.md.
package overlay

import (
	"iter"

	"overlay/api"
	"overlay/wire"
)

// Encode tells a delta as bytes (P3).
func Encode(d api.Delta) ([]byte, error) { return wire.Encode(d) }

// Decode tells the delta that bytes are (P4).
func Decode(b []byte) (api.Delta, error) { return wire.Decode(b) }

// EncodeAll tells a version and tables as bytes (P8).
func EncodeAll(v uint64, t *Tables) ([]byte, error) { return nil, nil }

// DecodeAll tells the version and the tables that bytes are (P8).
func DecodeAll(b []byte) (uint64, *Tables, error) { return 0, nil, nil }

// Seal makes a frame (P5).
func Seal(kind byte, body []byte) []byte { return wire.Seal(kind, body) }

// Unseal takes a frame apart (P5).
func Unseal(frame []byte) (byte, []byte, error) { return wire.Unseal(frame) }

// entries is what tables and agents have in common.
type entries struct{}

// Tables are entries by keys.
type Tables struct{ entries }

// NewTables makes empty ones (P6).
func NewTables() *Tables { return nil }

// Apply makes a delta's changes (P6).
func (t *Tables) Apply(d api.Delta) error { return nil }

// Entries goes over all entries (P6).
func (t *entries) Entries() iter.Seq2[api.Key, string] { return func(func(api.Key, string) bool) {} }

// Count tells how many entries a table has (P6).
func (t *entries) Count(table int) int { return 0 }

// Size tells how many bytes the entries have (P6).
func (t *entries) Size() int { return 0 }

// Mac tells the endpoint of an address (P7).
func (t *entries) Mac(address string) (string, bool) { return "", false }

// Route tells the next hop to an address (P7).
func (t *entries) Route(address string) (string, bool) { return "", false }

// Acl tells whether a protocol passes (P7).
func (t *entries) Acl(protocol int) (int, bool) { return 0, false }

// Reconcile brings a datapath to tables (P9).
func Reconcile(p api.Datapath, t *Tables) error { return nil }

// Agent takes deltas from a controller.
type Agent struct{ entries }

// Start begins from what a disk holds (P10).
func Start(d api.Disk, p api.Datapath) (*Agent, error) { return nil, nil }

// Receive takes a frame from the controller (P11, P12).
func (a *Agent) Receive(frame []byte) {}

// Tick: time has gone by (P11).
func (a *Agent) Tick() {}

// Next takes the next frame to the controller (P11).
func (a *Agent) Next() ([]byte, bool) { return nil, false }

// Version tells which version the tables have (P11).
func (a *Agent) Version() uint64 { return 0 }

// Degraded tells why nothing is taken any more (P13).
func (a *Agent) Degraded() error { return nil }
