/- Layer 3 of the program: a use's tokens are kept. -/
import Derived.Test.YteohmemifogdlaaZK
namespace Go.Proofs.Yteohmemifogdlaa
open Go.RowKit Lg Go.Maps
set_option linter.unusedVariables false
set_option linter.unusedSimpArgs false

theorem eC_p {n : Nm} {p : Nat} : ∀ (f : Nat) (l : List Tok) (f' : Nat) (a : List Tok), eC n p f l = .ok f' a → ∀ t ∈ a, t.p = p := by
  intro f
  induction f using Nat.strongRecOn with
  | ind f ih =>
    intro l f' a h
    cases l with
    | nil => rw [eC_nil] at h; injection h with h1 h2; subst h2; simp
    | cons t ts =>
      cases f with
      | zero =>
        by_cases h1 : t.k = 4 ∧ stn n t.x = none
        · rw [eC_bad h1.1 h1.2] at h; cases h
        · rw [eC_full (if h2 : t.k = 4 then Or.inr (fun h3 => h1 ⟨h2, h3⟩) else Or.inl h2)] at h; cases h
      | succ f =>
        by_cases h1 : t.k = 4
        · cases hs : stn n t.x with
          | none => rw [eC_bad h1 hs] at h; cases h
          | some b =>
            rw [eC_use h1 hs] at h
            cases hb : eC n p f b with
            | no e => rw [hb] at h; cases h
            | ok f1 a1 =>
              rw [hb] at h
              have hle := eC_le hb
              simp only [Ec.bind] at h
              cases ht : eC n p f1 ts with
              | no e => rw [ht] at h; cases h
              | ok f2 a2 =>
                rw [ht] at h
                simp only [Ec.app] at h
                injection h with h2 h3
                subst h3
                intro u hu
                rcases List.mem_append.1 hu with hu | hu
                · exact ih f (by omega) b f1 a1 hb u hu
                · exact ih f1 (by omega) ts f2 a2 ht u hu
        · rw [eC_tok h1] at h
          cases ht : eC n p f ts with
          | no e => rw [ht] at h; cases h
          | ok f2 a2 =>
            rw [ht] at h
            simp only [Ec.app] at h
            injection h with h2 h3
            subst h3
            intro u hu
            rcases List.mem_append.1 hu with hu | hu
            · simp at hu; subst hu; rfl
            · exact ih f (by omega) ts f2 a2 ht u hu
theorem keepI {B b : Nat} {src : List Tok} {r : RB} {D : DataW Value} {nD : Nat} {o : List Br} {kp : List Tok} {w : World} (h : Inv B b src r D nD o kp w) (hl : kp.length < 16384) (t : Tok) (sx : ByteArray) (hsx : sx = S t.x) :
    Calls Try.prog 29 #[.pointer (some ⟨b, 0, none⟩), .agg #[.int .i64 t.k, .string sx, .int .i64 t.p]] w fun e w' => e = .returned (.tuple #[]) ∧ ∃ v', (Inv B b src { r with vk := v' } D nD o (kp ++ [t]) w' ∧ Frm b r.mb B w w') ∧ (v'.ownBlock = r.vk.ownBlock ∨ ∃ g, v'.ownBlock = some g ∧ w.heap.size ≤ g) ∧ Grw b r.vk w w' := by
  subst hsx
  refine (keep_ok B b r kp t.k (S t.x) t.p w h.blk h.kpt hl h.Bw).mono ?_
  rintro e w' ⟨rfl, v', h1, h2, h3, h4⟩
  refine ⟨rfl, v', h.kept h1 ?_ h4, h3, h4⟩
  rw [tcells_app, tcells_one, List.length_append]; exact h2
theorem keepI_full {B b : Nat} {src : List Tok} {r : RB} {D : DataW Value} {nD : Nat} {o : List Br} {kp : List Tok} {w : World} (h : Inv B b src r D nD o kp w) (hl : kp.length = 16384) (t : Tok) (sx : ByteArray) :
    Calls Try.prog 29 #[.pointer (some ⟨b, 0, none⟩), .agg #[.int .i64 t.k, .string sx, .int .i64 t.p]] w fun e w' => e = .panicked (pnc t.p 2) ∧ Below w.heap.size w w' := by
  obtain ⟨ao, cap, hv⟩ := slice_of h.kpt
  rw [hl] at hv
  exact keep_full b r t.k sx t.p w h.blk ao cap hv
/-- how a call ends that gives up, or goes on -/
def UOut (B b : Nat) (src : List Tok) (r : RB) (D : DataW Value) (nD : Nat) (o : List Br) (w : World) (res : Po) (e : Ending) (w' : World) : Prop :=
  match res with
  | .no p c => e = .panicked (pnc p c) ∧ Frm b r.mb B w w'
  | .go _ s => e = .returned (.tuple #[]) ∧ ∃ v', Inv B b src { r with vk := v' } D nD o s.kp w' ∧ Frm b r.mb B w w'
theorem u_no {B b : Nat} {src : List Tok} {r : RB} {D : DataW Value} {nD : Nat} {o : List Br} {w w' : World} {res : Po} {p : Nat} {c : Int} (h : res = .no p c) (hf : Frm b r.mb B w w') : UOut B b src r D nD o w res (.panicked (pnc p c)) w' := by subst h; exact ⟨rfl, hf⟩
theorem u_go {B b : Nat} {src : List Tok} {r : RB} {D : DataW Value} {nD : Nat} {o : List Br} {w w' : World} {res : Po} {m : Nat} {s : Ps} {v' : Value} (h : res = .go m s) (hI : Inv B b src { r with vk := v' } D nD o s.kp w') (hf : Frm b r.mb B w w') : UOut B b src r D nD o w res (.returned (.tuple #[])) w' := by subst h; exact ⟨rfl, v', hI, hf⟩
theorem ob_new (w : World) (p : Nat) : OBl w.heap.size p 0 (.slice none 0 0) (w.alloc (.cells #[.int .i64 p, .int .i64 0, .slice none 0 0] 72)) := by
  show (w.heap.push _)[w.heap.size]? = _; simp

set_option maxRecDepth 100000 in
set_option maxHeartbeats 4000000 in
theorem use_no (B b : Nat) (src : List Tok) (r : RB) (D : DataW Value) (nD : Nat) (o : List Br) (kp : List Tok) (w : World) (h : Inv B b src r D nD o kp w) (N : Nm) (hN : NmOk r.g src D N) (t : Tok) (sx : ByteArray) (hsx : sx = S t.x) (htx : t.x.length ≤ 65536) (hs : stn N t.x = none) :
    Calls Try.prog 39 #[.pointer (some ⟨b, 0, none⟩), .agg #[.int .i64 t.k, .string sx, .int .i64 t.p]] w fun e w' => e = .panicked (pnc t.p 30) ∧ Frm b r.mb B w w' := by
  have hsxl : L sx = t.x := by rw [hsx, L_S]
  have HS : ∀ w', Below w.heap.size w w' → Calls Try.prog 42 #[.pointer (some ⟨b, 0, none⟩), .string sx, .int .i64 t.p] w' fun e w'' => e = .panicked (pnc t.p 30) ∧ w'' = w' := fun w' hb => stands_no b src r D nD N w' (h.same hb).blk (h.same hb).map hN sx (by rw [← len_L, hsxl]; unfold maxLen; omega) t.p (by rw [hsxl]; exact hs)
  have HF : ∀ w', Below w.heap.size w w' → Frm b r.mb B w w' := fun w' hb => Frm.of_below hb h.Bw
  clear h hN hsxl hsx hs
  go_enter Try.func39, Try.ntmps39
  go_wp2_with (first | (go_at_call 42; refine (HS _ (belA bxB _)).mono ?_; rintro e w2 ⟨rfl, hw2⟩; have hw3 := hw2.symm; subst hw3))
  exact ⟨rfl, rfl, HF _ (belA bxB _)⟩
end Go.Proofs.Yteohmemifogdlaa
