"""Traymap: crates of trays with wells, and ways between them."""
