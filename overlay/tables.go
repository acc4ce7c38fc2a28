package overlay

import (
	"iter"

	"overlay/api"
	"overlay/entry"
	"overlay/wire"
)

// entries is what tables and agents have in common.
type entries struct{ list entry.List }

// Tables are entries by keys.
type Tables struct{ entries }

// NewTables makes empty ones (P6).
func NewTables() *Tables { return &Tables{} }

// listOf is the entries of tables. No call may panic: no tables are taken for empty ones.
func listOf(t *Tables) entry.List {
	if t == nil {
		return nil
	}
	return t.list
}

// Apply makes a delta's changes (P6).
func (t *Tables) Apply(d api.Delta) error {
	if err := wire.Check(d); err != nil {
		return err
	}
	t.list = t.list.After(d.Ops)
	return nil
}

// Entries goes over all entries that there are when it is called (P6).
func (t *entries) Entries() iter.Seq2[api.Key, string] { return t.list.All() }

// Count tells how many entries a table has (P6).
func (t *entries) Count(table int) int { return t.list.Count(table) }

// Size tells how many bytes the entries have (P6).
func (t *entries) Size() int { return t.list.Size() }

// Mac tells the endpoint of an address (P7).
func (t *entries) Mac(address string) (string, bool) { return t.list.Mac(address) }

// Route tells the next hop to an address (P7).
func (t *entries) Route(address string) (string, bool) { return t.list.Route(address) }

// Acl tells whether a protocol passes (P7).
func (t *entries) Acl(protocol int) (int, bool) { return t.list.Acl(protocol) }
