// Package marks is the names in a tar that put nothing there: they take away what is there.
package marks

// Whiteout stands ahead of the name of what goes; Opaque is the name by which all goes that is in a directory.
const (
	Whiteout = ".wh."
	Opaque   = ".wh..wh..opq"
)
