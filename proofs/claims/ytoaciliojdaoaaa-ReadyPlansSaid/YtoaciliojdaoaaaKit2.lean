/- Helpers for the walks of this seat, more: grown worlds behind draws. No condition. -/
import Derived.Test.YtoaciliojdaoaaaKit
namespace Go.Proofs.Ytoaciliojdaoaaa
open Go.RowKit
theorem more_of_drew (w : World) (x : Xs) : more w.drew x = more w x := rfl
theorem more_of_drewN (w : World) (n : Nat) (x : Xs) : more (w.drewN n) x = more w x := by
  rfl
theorem more_drew_more (w : World) (x y : Xs) : more (more w x).drew y = more w (x.join y) := by
  rw [more_of_drew, more_more]
theorem past_cell (w : World) (x : Xs) (o : Obj) (n i : Nat) (h : n < w.heap.size) : ((more w x).alloc o).cell? ⟨n, i, none⟩ = w.cell? ⟨n, i, none⟩ := by
  rw [World.cell?_alloc_lt _ _ _ (by rw [more_size]; show n < _; omega), more_cell _ _ _ h]
theorem past_cell2 (w : World) (x : Xs) (o p : Obj) (n i : Nat) (h : n < w.heap.size) : (((more w x).alloc o).alloc p).cell? ⟨n, i, none⟩ = w.cell? ⟨n, i, none⟩ := by
  rw [World.cell?_alloc_lt _ _ _ (by rw [World.size_alloc, more_size]; show n < _; omega), past_cell _ _ _ _ _ h]
theorem past_frozen (w : World) (x : Xs) (o : Obj) (n i : Nat) (h : n < w.heap.size) : ((more w x).alloc o).frozen? ⟨n, i, none⟩ = w.frozen? ⟨n, i, none⟩ := by
  rw [World.frozen?_alloc_old _ _ _ (by rw [more_size]; show n ≠ _; omega), more_frozen _ _ _ h]
theorem past_frozen2 (w : World) (x : Xs) (o p : Obj) (n i : Nat) (h : n < w.heap.size) : (((more w x).alloc o).alloc p).frozen? ⟨n, i, none⟩ = w.frozen? ⟨n, i, none⟩ := by
  rw [World.frozen?_alloc_old _ _ _ (by rw [World.size_alloc, more_size]; show n ≠ _; omega), past_frozen _ _ _ _ _ h]
theorem alloc_setCell (w : World) (o : Obj) (a : Addr) (v : Value) (h : a.block < w.heap.size) : (w.alloc o).setCell a v = (w.setCell a v).alloc o := by
  rw [more_alloc, more_setCell _ _ _ _ h, more_alloc]
  rfl
theorem past_setCell (w : World) (x : Xs) (o : Obj) (n i : Nat) (v : Value) (h : n < w.heap.size) : ((more w x).alloc o).setCell ⟨n, i, none⟩ v = (more (w.setCell ⟨n, i, none⟩ v) x).alloc o := by
  rw [alloc_setCell _ _ _ _ (by rw [more_size]; show n < _; omega), more_setCell _ _ _ _ h]
theorem past_setCell2 (w : World) (x : Xs) (o p : Obj) (n i : Nat) (v : Value) (h : n < w.heap.size) : (((more w x).alloc o).alloc p).setCell ⟨n, i, none⟩ v = ((more (w.setCell ⟨n, i, none⟩ v) x).alloc o).alloc p := by
  rw [alloc_setCell _ _ _ _ (by rw [World.size_alloc, more_size]; show n < _; omega), past_setCell _ _ _ _ _ _ h]
theorem lt_more (w : World) (x : Xs) (n : Nat) (h : n < w.heap.size) : n < (more w x).heap.size := by rw [more_size]; omega
theorem le_more (w : World) (x : Xs) (n : Nat) (h : n ≤ w.heap.size) : n ≤ (more w x).heap.size := by rw [more_size]; omega
theorem mid_cell (w : World) (x y : Xs) (o : Obj) (n i : Nat) (h : n < w.heap.size) : (more ((more w x).alloc o) y).cell? ⟨n, i, none⟩ = w.cell? ⟨n, i, none⟩ := by
  rw [more_cell _ _ _ (by rw [World.size_alloc, more_size]; show n < _; omega), past_cell _ _ _ _ _ h]
theorem mid_frozen (w : World) (x y : Xs) (o : Obj) (n i : Nat) (h : n < w.heap.size) : (more ((more w x).alloc o) y).frozen? ⟨n, i, none⟩ = w.frozen? ⟨n, i, none⟩ := by
  rw [more_frozen _ _ _ (by rw [World.size_alloc, more_size]; show n < _; omega), past_frozen _ _ _ _ _ h]
theorem mid_setCell (w : World) (x y : Xs) (o : Obj) (n i : Nat) (v : Value) (h : n < w.heap.size) : (more ((more w x).alloc o) y).setCell ⟨n, i, none⟩ v = more ((more (w.setCell ⟨n, i, none⟩ v) x).alloc o) y := by
  rw [more_setCell _ _ _ _ (by rw [World.size_alloc, more_size]; show n < _; omega), past_setCell _ _ _ _ _ _ h]
end Go.Proofs.Ytoaciliojdaoaaa
