package disk

// file is bytes, of which the first safe ones are durable.
type file struct {
	bytes []byte
	safe  int
}

// loose is how many bytes of f are not durable.
func (f *file) loose() int { return len(f.bytes) - f.safe }

// sync makes all bytes of f durable.
func (f *file) sync() { f.safe = len(f.bytes) }

// cut leaves the first size bytes of f, which has as many.
func (f *file) cut(size int) {
	f.bytes = f.bytes[:size]
	f.safe = min(f.safe, size)
}

// crash is what a power loss makes of f: how many of the bytes that are not durable stay is told by pick, and how the last of these is changed by turn.
func (f *file) crash(pick uint16, turn byte) {
	stay := int(pick) % (f.loose() + 1)
	f.cut(f.safe + stay)
	if stay > 0 {
		f.bytes[len(f.bytes)-1] ^= turn
	}
	f.sync()
}
