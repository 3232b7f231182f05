package pipe

import (
	"sync"

	"prune/api"
)

// fault is what is wrong with a document: what is told of it first.
type fault struct {
	once  sync.Once
	known chan struct{} // closed as soon as something is told
	no    api.Errno
	at    int
}

func (f *fault) tell(no api.Errno, at int) {
	f.once.Do(func() {
		f.no, f.at = no, at
		close(f.known)
	})
}

func (f *fault) isKnown() bool {
	select {
	case <-f.known:
		return true
	default:
		return false
	}
}
