package console

import "bytes"

// Lay puts a disk before the operator that no line makes: one that came back from somewhere; or none.
func (c *Console) Lay(image []byte) { c.image = bytes.Clone(image) }
