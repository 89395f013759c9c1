/- The statements' own calls: act; a list of calls in memory. -/
import Derived.Test.YtdbphdllibffnaaGreatDkQJ
namespace Go.Proofs.YtdbphdllibffnaaGreat
open Go.RowKit Go.Shelf
set_option maxRecDepth 8000

/-- One call, as data. -/
structure OpK where
  kind : Int
  name : ByteArray
  dest : ByteArray
  pa : Option Addr
  pc : Nat
  p : List Int
  n : Int
  ka : Option Addr
  kc : Nat
  keep : List Int

def actK (D : DkD) (o : OpK) : Int × DkD :=
  if o.kind = 1 then D.act (D.errA o.name o.p.length) (appF D.files o.name o.p)
  else if o.kind = 2 then D.act (D.errO o.name) (updF D.files o.name durF)
  else if o.kind = 3 then D.act (D.errC o.name o.n) (updF D.files o.name (cutF o.n.toNat))
  else if o.kind = 4 then D.act (D.errR o.name o.dest) (renF D.files o.name o.dest)
  else if o.kind = 5 then D.act (D.errO o.name) (D.files.eraseIdx (dropI D.files o.name))
  else (0, D)

theorem errA_zero {D : DkD} {n : ByteArray} {k : Nat} (h : D.errA n k = 0) : D.on = true ∧ isNm n = true ∧ ¬ (hasF D.files n = false ∧ 64 ≤ D.files.length) ∧ (k : Int) ≤ D.room - usedD D.files := by
  unfold DkD.errA at h
  cases h1 : D.on <;> rw [h1] at h
  · simp at h
  · cases h2 : isNm n <;> rw [h2] at h
    · simp at h
    · rw [if_pos rfl, if_pos rfl] at h
      split at h
      · simp at h
      · rename_i h3
        split at h
        · rename_i h4; exact ⟨rfl, rfl, h3, h4⟩
        · simp at h

theorem errR_zero {D : DkD} {a b : ByteArray} (h : D.errR a b = 0) : D.on = true ∧ isNm a = true ∧ isNm b = true ∧ hasF D.files a = true := by
  unfold DkD.errR at h
  cases h1 : D.on <;> rw [h1] at h
  · simp at h
  · cases h2 : isNm a <;> cases h3 : isNm b <;> rw [h2, h3] at h
    · simp at h
    · simp at h
    · simp at h
    · cases h4 : hasF D.files a <;> rw [h4] at h
      · simp at h
      · exact ⟨rfl, rfl, rfl, rfl⟩

theorem errC_zero {D : DkD} {n : ByteArray} {k : Int} (h : D.errC n k = 0) : D.errO n = 0 ∧ 0 ≤ k ∧ ∀ f, D.files[pl D.files n]? = some f → k ≤ f.bytes.length := by
  unfold DkD.errC at h
  split at h
  · rename_i h1
    split at h
    · rename_i h2
      refine ⟨h1, h2.1, fun f hf => ?_⟩
      have := h2.2
      rw [hf] at this
      simpa using this
    · simp at h
  · rename_i h1
    exact absurd h h1

theorem actK_ok {D : DkD} (h : DkOk D) (o : OpK) : DkOk (actK D o).2 := by
  unfold actK
  split
  · exact h.act _ _ (fun e => by obtain ⟨_, a, b, c⟩ := errA_zero e; exact h.fok.app _ _ a b c)
  · split
    · exact h.act _ _ (fun _ => h.fok.dur _)
    · split
      · exact h.act _ _ (fun e => by obtain ⟨_, a, b⟩ := errC_zero e; exact h.fok.cut _ _ (fun f hf => by have := b f hf; omega))
      · split
        · exact h.act _ _ (fun e => by obtain ⟨_, _, a, b⟩ := errR_zero e; exact h.fok.ren _ _ b a)
        · split
          · exact h.act _ _ (fun _ => h.fok.erase _)
          · exact h

theorem actK_writes (D : DkD) (o : OpK) : (actK D o).2.writes ≤ D.writes + 1 := by
  unfold actK
  repeat' split
  all_goals first | exact act_writes .. | (simp only; omega)

theorem wrapI (n : Int) (h0 : -9223372036854775808 ≤ n) (h1 : n ≤ 9223372036854775807) : IntKind.i64.wrap n = n := by rw [IntKind.wrap_i64]; omega

end Go.Proofs.YtdbphdllibffnaaGreat
