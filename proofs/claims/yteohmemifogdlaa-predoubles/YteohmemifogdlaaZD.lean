/- Layer 3 of the program: what a run stands on, and what stays. -/
import Derived.Test.YteohmemifogdlaaZC
import Derived.Test.YteohmemifogdlaaGX
namespace Go.Proofs.Yteohmemifogdlaa
open Go.RowKit Lg Go.Maps
set_option linter.unusedVariables false
set_option linter.unusedSimpArgs false

/-- all blocks below B but two are as they were -/
structure Frm (b m B : Nat) (w w' : World) : Prop where
  os : w'.os = w.os
  tape : w'.tape = w.tape
  output : w'.output = w.output
  size : w.heap.size ≤ w'.heap.size
  block : ∀ k, k < B → k ≠ b → k ≠ m → w'.heap[k]? = w.heap[k]?
theorem Frm.refl (b m B : Nat) (w : World) : Frm b m B w w := ⟨rfl, rfl, rfl, Nat.le_refl _, fun _ _ _ _ => rfl⟩
theorem Frm.trans {b m B : Nat} {x y z : World} (h : Frm b m B x y) (k : Frm b m B y z) : Frm b m B x z :=
  ⟨k.os.trans h.os, k.tape.trans h.tape, k.output.trans h.output, Nat.le_trans h.size k.size, fun i hi h1 h2 => (k.block i hi h1 h2).trans (h.block i hi h1 h2)⟩
theorem Frm.of_below {b m B : Nat} {w w' : World} (h : Below w.heap.size w w') (hB : B ≤ w.heap.size) : Frm b m B w w' :=
  ⟨h.os, h.tape, h.output, h.size, fun k hk _ _ => h.block k (by omega)⟩
theorem Frm.below {b m B B0 : Nat} {w w' : World} (h : Frm b m B w w') (h1 : B0 ≤ b) (h2 : B0 ≤ m) (h3 : B0 ≤ B) : Below B0 w w' :=
  ⟨h.os, h.tape, h.output, h.size, fun k hk => h.block k (by omega) (by omega) (by omega)⟩
theorem Frm.of_grw {b m B : Nat} {v : Value} {w w' : World} (h : Grw b v w w') (hB : B ≤ w.heap.size) (hv : ∀ k, v.ownBlock = some k → B ≤ k) : Frm b m B w w' :=
  ⟨h.os, h.tape, h.output, h.size, fun k hk h1 _ => h.block k (by omega) h1 (fun e => by have := hv k e.symm; omega)⟩
theorem own_ge {w : World} {B e z n : Nat} {v : Value} {xs : List Value} (h : w.ownsRow B e z v n xs) : ∀ k, v.ownBlock = some k → B ≤ k ∧ k < w.heap.size := by
  intro k hk
  rcases h.2 with ⟨rfl, _⟩ | ⟨g, cap, cur, rfl, hg, hh, _⟩
  · cases hk
  · simp [Value.ownBlock] at hk; subst hk; exact ⟨hg, heap_lt hh⟩
theorem own_block {w w' : World} {B e z n : Nat} {v : Value} {xs : List Value} (h : w.ownsRow B e z v n xs) (hb : ∀ k, v.ownBlock = some k → w'.heap[k]? = w.heap[k]?) : w'.ownsRow B e z v n xs := by
  obtain ⟨h1, h2⟩ := h
  refine ⟨h1, ?_⟩
  rcases h2 with h2 | ⟨g, cap, cur, rfl, hg, hh, r⟩
  · exact Or.inl h2
  · exact Or.inr ⟨g, cap, cur, rfl, hg, by rw [hb g rfl]; exact hh, r⟩
theorem map_block {w w' : World} {m n : Nat} {D : DataW Value} (h : w.ownsMap Try.prog 9 rdV m n D) (hb : w'.heap[m]? = w.heap[m]?) : w'.ownsMap Try.prog 9 rdV m n D := by
  obtain ⟨es, clock, h1, r⟩ := h
  exact ⟨es, clock, hb.trans h1, r⟩
theorem map_ne {w : World} {b m n : Nat} {r : RB} {D : DataW Value} (h : w.ownsMap Try.prog 9 rdV m n D) (hb : RBl b r w) : m ≠ b := by
  rintro rfl
  obtain ⟨es, clock, h1, _⟩ := h
  rw [show w.heap[m]? = _ from hb] at h1; cases h1
theorem map_own {w : World} {m n B e z j : Nat} {v : Value} {xs : List Value} {D : DataW Value} (h : w.ownsMap Try.prog 9 rdV m n D) (ho : w.ownsRow B e z v j xs) : v.ownBlock ≠ some m := by
  obtain ⟨es, clock, h1, _⟩ := h
  rcases ho.2 with ⟨rfl, _⟩ | ⟨g, cap, cur, rfl, _, hg, _⟩
  · simp [Value.ownBlock]
  · intro e1
    simp [Value.ownBlock] at e1
    subst e1
    rw [h1] at hg; cases hg
theorem own_own {w : World} {B e z j B2 e2 z2 j2 : Nat} {v v2 : Value} {xs xs2 : List Value} (h : w.ownsRow B e z v j xs) (h2 : w.ownsRow B2 e2 z2 v2 j2 xs2) (hne : e ≠ e2) : ∀ k, v.ownBlock = some k → v2.ownBlock ≠ some k := by
  intro k hk e1
  rcases h.2 with ⟨rfl, _⟩ | ⟨g, cap, cur, rfl, _, hg, _⟩
  · cases hk
  · rcases h2.2 with ⟨rfl, _⟩ | ⟨g2, cap2, cur2, rfl, _, hg2, _⟩
    · cases e1
    · simp [Value.ownBlock] at hk e1
      subst hk e1
      rw [hg] at hg2
      simp at hg2
      exact hne hg2.2
/-- what a run stands on -/
structure Inv (B b : Nat) (src : List Tok) (r : RB) (D : DataW Value) (nD : Nat) (o : List Br) (kp : List Tok) (w : World) : Prop where
  blk : RBl b r w
  map : w.ownsMap Try.prog 9 rdV r.mb nD D
  opn : w.ownsRow B 54 4 r.vo o.length (brcs o)
  kpt : w.ownsRow B 35 3 r.vk kp.length (tcells kp)
  bB : b < B
  mB : r.mb < B
  gB : r.g < B
  gb : r.g ≠ b
  gm : r.g ≠ r.mb
  Bw : B ≤ w.heap.size
  n : r.n = src.length ∧ src.length ≤ r.cap ∧ src.length ≤ 1000000
  src : ∀ j u, (tcells src)[j]? = some u → w.cell? ⟨r.g, j, none⟩ = some u
theorem Inv.get {B b : Nat} {src : List Tok} {r : RB} {D : DataW Value} {nD : Nat} {o : List Br} {kp : List Tok} {w : World} (h : Inv B b src r D nD o kp w) {i : Nat} {t : Tok} (hi : src[i]? = some t) :
    w.cell? ⟨r.g, i * 3, none⟩ = some (.int .i64 t.k) ∧ w.cell? ⟨r.g, i * 3 + 1, none⟩ = some (.string (S t.x)) ∧ w.cell? ⟨r.g, i * 3 + 2, none⟩ = some (.int .i64 t.p) := by
  obtain ⟨a, b, c⟩ := tcell_at hi
  exact ⟨h.src _ _ a, h.src _ _ b, h.src _ _ c⟩
theorem Inv.same {B b : Nat} {src : List Tok} {r : RB} {D : DataW Value} {nD : Nat} {o : List Br} {kp : List Tok} {w w' : World} (h : Inv B b src r D nD o kp w) (hb : Below w.heap.size w w') : Inv B b src r D nD o kp w' where
  blk := (hb.block b (heap_lt h.blk)).trans h.blk
  map := map_block h.map (hb.block _ h.map.lt)
  opn := own_block h.opn fun k hk => hb.block k (own_ge h.opn k hk).2
  kpt := own_block h.kpt fun k hk => hb.block k (own_ge h.kpt k hk).2
  bB := h.bB
  mB := h.mB
  gB := h.gB
  gb := h.gb
  gm := h.gm
  Bw := Nat.le_trans h.Bw hb.size
  n := h.n
  src := fun j u hu => by rw [hb.cell (p := ⟨r.g, j, none⟩) (Nat.lt_of_lt_of_le h.gB h.Bw)]; exact h.src j u hu
theorem Inv.src_frm {B b : Nat} {src : List Tok} {r : RB} {D : DataW Value} {nD : Nat} {o : List Br} {kp : List Tok} {w w' : World} (h : Inv B b src r D nD o kp w) (hf : Frm b r.mb B w w') : ∀ j u, (tcells src)[j]? = some u → w'.cell? ⟨r.g, j, none⟩ = some u := fun j u hu => by
  rw [World.cell?_of_block (w := w) (a := ⟨r.g, j, none⟩) (hf.block r.g h.gB h.gb h.gm)]; exact h.src j u hu
theorem Frm.set {b m B j : Nat} {w : World} {y : Value} : Frm b m B w (w.setCell ⟨b, j, none⟩ y) := ⟨rfl, rfl, rfl, by simp [World.setCell], fun k _ h1 _ => Below.heap_setCell _ _ _ _ h1⟩
theorem Inv.set4 {B b : Nat} {src : List Tok} {r : RB} {D : DataW Value} {nD : Nat} {o : List Br} {kp : List Tok} {w : World} (h : Inv B b src r D nD o kp w) (x : Nat) (y : Value) (hy : y = .int .i64 x) : Inv B b src { r with at_ := x } D nD o kp (w.setCell ⟨b, 4, none⟩ y) where
  blk := h.blk.set4 x y hy
  map := map_block h.map (Below.heap_setCell _ _ _ _ (map_ne h.map h.blk))
  opn := owns_set h.opn (own_ne h.opn h.blk (by decide))
  kpt := owns_set h.kpt (own_ne h.kpt h.blk (by decide))
  bB := h.bB
  mB := h.mB
  gB := h.gB
  gb := h.gb
  gm := h.gm
  Bw := by have := h.Bw; simp [World.setCell]; omega
  n := h.n
  src := h.src_frm Frm.set
theorem Inv.kept {B b : Nat} {src : List Tok} {r : RB} {D : DataW Value} {nD : Nat} {o : List Br} {kp : List Tok} {w w' : World} (h : Inv B b src r D nD o kp w) {v : Value} {kp' : List Tok} (hb : RBl b { r with vk := v } w') (hk : w'.ownsRow B 35 3 v kp'.length (tcells kp')) (hg : Grw b r.vk w w') : Inv B b src { r with vk := v } D nD o kp' w' ∧ Frm b r.mb B w w' := by
  have hf : Frm b r.mb B w w' := Frm.of_grw hg h.Bw fun k hk => (own_ge h.kpt k hk).1
  refine ⟨⟨hb, map_block h.map (hg.block _ h.map.lt (map_ne h.map h.blk) (fun e => map_own h.map h.kpt e.symm)), own_block h.opn (fun k hk => hg.block k (own_ge h.opn k hk).2 (fun e => own_ne h.opn h.blk (by decide) (by rw [hk, e])) (fun e => own_own h.opn h.kpt (by decide) k hk e.symm)), hk, h.bB, h.mB, h.gB, h.gb, h.gm, Nat.le_trans h.Bw hg.size, h.n, h.src_frm hf⟩, hf⟩
end Go.Proofs.Yteohmemifogdlaa
