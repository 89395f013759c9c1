/- The statements' own calls: act; a list of calls in memory. -/
import Derived.Test.YtbdokdhconhifaaGreatDoorDkQJ
namespace Go.Proofs.YtbdokdhconhifaaGreatDoor
open Go.RowKit Go.Shelf
set_option maxRecDepth 8000

/-- One call, as data. -/
structure OpK where
  kind : Int
  name : ByteArray
  dest : ByteArray
  pa : Option Addr
  pc : Nat
  p : List Int
  n : Int
  ka : Option Addr
  kc : Nat
  keep : List Int

def OpK.pv (o : OpK) : Value := .slice o.pa o.p.length o.pc
def OpK.kv (o : OpK) : Value := .slice o.ka o.keep.length o.kc
def OpK.cells (o : OpK) : List Value := [.int .i64 o.kind, .string o.name, .string o.dest, .slice o.pa o.p.length o.pc, .int .i64 o.n, .slice o.ka o.keep.length o.kc]

/-- What holds of a call in memory, all of it below n. -/
structure GoodOpK (w : World) (n : Nat) (o : OpK) : Prop where
  see : Sees w o.pv o.p
  keep : SeesN w o.kv o.keep
  pl : o.p.length ≤ 140737488355328
  kl : o.keep.length ≤ 140737488355328
  nl : o.name.size ≤ 140737488355328
  dl : o.dest.size ≤ 140737488355328
  pb : o.p ≠ [] → ∀ k, o.pv.ownBlock = some k → k < n
  kb : o.keep ≠ [] → ∀ k, o.kv.ownBlock = some k → k < n
  n1 : o.n ≤ 9223372036854775807

theorem GoodOpK.kept {w w' : World} {S : Nat → Prop} {n : Nat} {o : OpK} (h : GoodOpK w n o) (hk : Kept w w' S) (hS : ∀ k, k < n → ¬ S k) : GoodOpK w' n o :=
  ⟨h.see.keptN hk (fun hy k e => hS k (h.pb hy k e)), h.keep.kept hk (fun hy k e => hS k (h.kb hy k e)), h.pl, h.kl, h.nl, h.dl, h.pb, h.kb, h.n1⟩

def actK (D : DkD) (o : OpK) : Int × DkD :=
  if o.kind = 1 then D.act (D.errA o.name o.p.length) (appF D.files o.name o.p)
  else if o.kind = 2 then D.act (D.errO o.name) (updF D.files o.name durF)
  else if o.kind = 3 then D.act (D.errC o.name o.n) (updF D.files o.name (cutF o.n.toNat))
  else if o.kind = 4 then D.act (D.errR o.name o.dest) (renF D.files o.name o.dest)
  else if o.kind = 5 then D.act (D.errO o.name) (D.files.eraseIdx (dropI D.files o.name))
  else (0, D)

theorem errA_zero {D : DkD} {n : ByteArray} {k : Nat} (h : D.errA n k = 0) : D.on = true ∧ isNm n = true ∧ ¬ (hasF D.files n = false ∧ 64 ≤ D.files.length) ∧ (k : Int) ≤ D.room - usedD D.files := by
  unfold DkD.errA at h
  cases h1 : D.on <;> rw [h1] at h
  · simp at h
  · cases h2 : isNm n <;> rw [h2] at h
    · simp at h
    · rw [if_pos rfl, if_pos rfl] at h
      split at h
      · simp at h
      · rename_i h3
        split at h
        · rename_i h4; exact ⟨rfl, rfl, h3, h4⟩
        · simp at h

theorem errR_zero {D : DkD} {a b : ByteArray} (h : D.errR a b = 0) : D.on = true ∧ isNm a = true ∧ isNm b = true ∧ hasF D.files a = true := by
  unfold DkD.errR at h
  cases h1 : D.on <;> rw [h1] at h
  · simp at h
  · cases h2 : isNm a <;> cases h3 : isNm b <;> rw [h2, h3] at h
    · simp at h
    · simp at h
    · simp at h
    · cases h4 : hasF D.files a <;> rw [h4] at h
      · simp at h
      · exact ⟨rfl, rfl, rfl, rfl⟩

theorem errC_zero {D : DkD} {n : ByteArray} {k : Int} (h : D.errC n k = 0) : D.errO n = 0 ∧ 0 ≤ k ∧ ∀ f, D.files[pl D.files n]? = some f → k ≤ f.bytes.length := by
  unfold DkD.errC at h
  split at h
  · rename_i h1
    split at h
    · rename_i h2
      refine ⟨h1, h2.1, fun f hf => ?_⟩
      have := h2.2
      rw [hf] at this
      simpa using this
    · simp at h
  · rename_i h1
    exact absurd h h1

theorem actK_ok {D : DkD} (h : DkOk D) (o : OpK) : DkOk (actK D o).2 := by
  unfold actK
  split
  · exact h.act _ _ (fun e => by obtain ⟨_, a, b, c⟩ := errA_zero e; exact h.fok.app _ _ a b c)
  · split
    · exact h.act _ _ (fun _ => h.fok.dur _)
    · split
      · exact h.act _ _ (fun e => by obtain ⟨_, a, b⟩ := errC_zero e; exact h.fok.cut _ _ (fun f hf => by have := b f hf; omega))
      · split
        · exact h.act _ _ (fun e => by obtain ⟨_, _, a, b⟩ := errR_zero e; exact h.fok.ren _ _ b a)
        · split
          · exact h.act _ _ (fun _ => h.fok.erase _)
          · exact h

theorem actK_writes (D : DkD) (o : OpK) : (actK D o).2.writes ≤ D.writes + 1 := by
  unfold actK
  repeat' split
  all_goals first | exact act_writes .. | (simp only; omega)

theorem actK_room (D : DkD) (o : OpK) : (actK D o).2.room = D.room := by
  unfold actK
  repeat' split
  all_goals first | exact act_room .. | rfl

/-- A list of calls in memory, all of it below n. -/
def SeesOpsK (w : World) (n : Nat) (v : Value) (l : List OpK) : Prop :=
  (∃ a c, v = .slice a l.length c ∧ l.length ≤ c ∧ c ≤ maxLen ∧ (l = [] ∨ ∃ b off, a = some ⟨b, off, none⟩ ∧ b < n ∧ ∀ (i : Nat) (h : i < l.length), w.rangeAt b (off + i * 6) l[i].cells)) ∧ ∀ o ∈ l, GoodOpK w n o

theorem SeesOpsK.kept {w w' : World} {S : Nat → Prop} {n : Nat} {v : Value} {l : List OpK} (h : SeesOpsK w n v l) (hk : Kept w w' S) (hS : ∀ k, k < n → ¬ S k) : SeesOpsK w' n v l := by
  obtain ⟨⟨a, c, rfl, h1, h2, h3⟩, h4⟩ := h
  refine ⟨⟨a, c, rfl, h1, h2, ?_⟩, fun o ho => (h4 o ho).kept hk hS⟩
  rcases h3 with h3 | ⟨b, off, rfl, hb, h3⟩
  · exact .inl h3
  · refine .inr ⟨b, off, rfl, hb, fun i hi j x hj => ?_⟩
    have hc := h3 i hi j x hj
    rw [World.cell?_of_block (hk.block b (World.block_lt_of_cell? w ⟨b, off + i * 6 + j, none⟩ hc) (hS b hb))]
    exact hc

def opSz (o : OpK) : Nat := o.p.length + o.keep.length + o.name.size + o.dest.size
def opsSz : List OpK → Nat
  | [] => 0
  | o :: r => opSz o + opsSz r

theorem opsSz_append (a b : List OpK) : opsSz (a ++ b) = opsSz a + opsSz b := by
  induction a with
  | nil => simp [opsSz]
  | cons o r ih => simp only [List.cons_append, opsSz, ih]; omega
theorem opsSz_next {l : List OpK} {k : Nat} (h : k < l.length) : opsSz (l.take (k + 1)) = opsSz (l.take k) + opSz l[k] := by
  rw [List.take_succ_eq_append_getElem h, opsSz_append]; simp [opsSz]
theorem opsSz_mem {l : List OpK} {o : OpK} (h : o ∈ l) : opSz o ≤ opsSz l := by
  induction l with
  | nil => cases h
  | cons a l ih =>
    simp only [opsSz]
    rcases List.mem_cons.1 h with rfl | h
    · omega
    · have := ih h; omega

theorem wrapI (n : Int) (h0 : -9223372036854775808 ≤ n) (h1 : n ≤ 9223372036854775807) : IntKind.i64.wrap n = n := by rw [IntKind.wrap_i64]; omega

theorem opsSz_take (l : List OpK) (k : Nat) : opsSz (l.take k) ≤ opsSz l := by
  conv => rhs; rw [← List.take_append_drop k l, opsSz_append]
  omega

def byd (l : List OpK) : Bool := decide (2147483647 ≤ l.length + opsSz l)
theorem byd_false {l : List OpK} (h : byd l = false) : l.length < 2147483647 ∧ ∀ o ∈ l, o.p.length < 2147483647 := by
  have e2 := of_decide_eq_false h
  refine ⟨by omega, fun o ho => ?_⟩
  have := opsSz_mem ho
  unfold opSz at this
  omega

end Go.Proofs.YtbdokdhconhifaaGreatDoor