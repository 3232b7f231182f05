// Package guide: what is where in a document: see doc/10-guide.md.
package guide

import "prune/api"

// Of tells a document's labels (D1).
func Of(doc string) ([]api.Label, api.Errno, int) { return nil, api.OK, 0 }

// May tells whether a query can lead to something (D2).
func May(labels []api.Label, q string) (bool, api.Errno, int) { return false, api.OK, 0 }
