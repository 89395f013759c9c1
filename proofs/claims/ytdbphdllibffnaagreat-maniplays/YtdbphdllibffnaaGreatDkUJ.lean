/- A list of calls and a list of numbers that came in, opened: what the statement's reading says of their cells; no Go function is walked here. -/
import Derived.Test.YtdbphdllibffnaaGreatDkRJ
import Derived.Deep.Slices
import Derived.SizedLaws
import Derived.ProofKit
import Derived.OpenShut
import Derived.ShutString
import Derived.ChangeOld
namespace Go.Proofs.YtdbphdllibffnaaGreat
open Go.ChangeShapes Go.WideShapes Go.ChangeAt Go.RowKit
set_option maxRecDepth 8000

theorem Tryz.own : ownKnob Tryz.prog.godebug = none := by kernel_rfl
theorem Tryz.laidOut : laidOutB Tryz.prog = true := by kernel_rfl

theorem addK (b off n : Nat) : (⟨b, off, none⟩ : Addr).add n = ⟨b, off + n, none⟩ := by
  by_cases h : n = 0
  · subst h; simp [Addr.add]
  · simp [Addr.add, h]

theorem seesK_nil (w : World) : Sees w (.slice none 0 0) [] := ⟨none, 0, rfl, Nat.le_refl _, by unfold maxLen; omega, fun _ => rfl, .inl rfl⟩
theorem seesN_nil (w : World) : SeesN w (.slice none 0 0) [] := ⟨none, 0, rfl, Nat.le_refl _, by unfold maxLen; omega, .inl rfl⟩

theorem reachK : reachBytes ≤ 140737488355328 := by
  have hr := reachBytes_lt
  have h47 : (2 : Nat) ^ 47 = 140737488355328 := by decide
  omega

section
variable {H : Type} {enc : TypeId × Value → H} {W : World} {base : Nat} {spare : Nat → Bool} {held : Bool}

/-- A list of bytes inside a cell. -/
theorem open_bytesK {fuel : Nat} {v : Value} {x : DataW H × List MemPlace} (h : DataW.trod enc Tryz.prog W base spare held fuel 36 [v] = some x) (hw : (x.1.weights Tryz.prog 36).all (· ≤ reachBytes) = true) :
    ∃ (ao : Option Addr) (cap : Nat) (ys : List Int), v = .slice ao ys.length cap ∧ Sees W (.slice ao ys.length cap) ys ∧ (ys ≠ [] → ∀ k, (Value.slice ao ys.length cap).ownBlock = some k → k < W.heap.size) ∧ ys.length ≤ 140737488355328 := by
  rcases open_ints Tryz.underlying36 Tryz.underlying5 (by kernel_rfl) h with ⟨hcs, _⟩ | ⟨a, l, c, zs, hcs, _, hl, hm, hz, hx, hcell, hwz⟩
  · simp at hcs
    subst hcs
    exact ⟨none, 0, [], rfl, seesK_nil W, fun e => absurd rfl e, Nat.zero_le _⟩
  · simp at hcs
    subst hcs
    have hlz : l ≤ zs.length := by rw [hz]; split <;> omega
    have hlen : (zs.take l).length = l := by simp; omega
    refine ⟨some a, c, zs.take l, by rw [hlen], ?_, ?_, ?_⟩
    · refine ⟨some a, c, rfl, by omega, hm, fun e => by simp at e, ?_⟩
      by_cases h0 : l = 0
      · subst h0; exact .inl (by simp)
      · obtain ⟨b, off, spot⟩ := a
        have hc := hcell 0 (by omega)
        have hspot : spot = none := by simpa [Addr.add] using World.cell?_spot hc
        subst hspot
        refine .inr ⟨b, off, rfl, fun i hi => ?_⟩
        have := hcell i (by omega)
        rw [addK] at this
        rw [this]
        have hi' : i < l := by omega
        simp [List.getD_eq_getElem?_getD, hi']
    · intro hne k hk
      have h0 : l ≠ 0 := fun e => hne (by rw [e]; rfl)
      have hc := World.block_lt_of_cell? W _ (hcell 0 (by omega))
      have e : (a.add 0).block = a.block := by simp [Addr.add]
      have hk' : a.block = k := by simpa [Value.ownBlock] using hk
      rw [e, hk'] at hc
      exact hc
    · have hb1 : Tryz.prog.bytesOf 5 = 1 := by kernel_rfl
      rw [hx] at hw
      simp only [DataW.weights, Tryz.underlying36, hb1, List.all_cons, Bool.and_eq_true, decide_eq_true_eq] at hw
      have h1 := hw.1
      have h2 : (lits (H := H) .u8 (zs.take l)).length = (zs.take l).length := by simp [lits]
      have := reachK
      omega

/-- A list of numbers. -/
theorem open_numsK {fuel : Nat} {v : Value} {x : DataW H × List MemPlace} (h : DataW.trod enc Tryz.prog W base spare held fuel 37 [v] = some x) (hw : (x.1.weights Tryz.prog 37).all (· ≤ reachBytes) = true) :
    ∃ (ao : Option Addr) (cap : Nat) (ks : List Int), v = .slice ao ks.length cap ∧ SeesN W (.slice ao ks.length cap) ks ∧ (ks ≠ [] → ∀ k, (Value.slice ao ks.length cap).ownBlock = some k → k < W.heap.size) ∧ ks.length ≤ 140737488355328 := by
  rcases open_ints Tryz.underlying37 Tryz.underlying3 (by kernel_rfl) h with ⟨hcs, _⟩ | ⟨a, l, c, zs, hcs, _, hl, hm, hz, hx, hcell, hwz⟩
  · simp at hcs
    subst hcs
    exact ⟨none, 0, [], rfl, seesN_nil W, fun e => absurd rfl e, Nat.zero_le _⟩
  · simp at hcs
    subst hcs
    have hlz : l ≤ zs.length := by rw [hz]; split <;> omega
    have hlen : (zs.take l).length = l := by simp; omega
    refine ⟨some a, c, zs.take l, by rw [hlen], ?_, ?_, ?_⟩
    · refine ⟨some a, c, rfl, by omega, hm, ?_⟩
      by_cases h0 : l = 0
      · subst h0; exact .inl (by simp)
      · obtain ⟨b, off, spot⟩ := a
        have hc := hcell 0 (by omega)
        have hspot : spot = none := by simpa [Addr.add] using World.cell?_spot hc
        subst hspot
        refine .inr ⟨b, off, rfl, fun i hi => ?_⟩
        have := hcell i (by omega)
        rw [addK] at this
        rw [this]
        have hi' : i < l := by omega
        simp [List.getD_eq_getElem?_getD, hi']
    · intro hne k hk
      have h0 : l ≠ 0 := fun e => hne (by rw [e]; rfl)
      have hc := World.block_lt_of_cell? W _ (hcell 0 (by omega))
      have e : (a.add 0).block = a.block := by simp [Addr.add]
      have hk' : a.block = k := by simpa [Value.ownBlock] using hk
      rw [e, hk'] at hc
      exact hc
    · have hb1 : Tryz.prog.bytesOf 3 = 8 := by kernel_rfl
      rw [hx] at hw
      simp only [DataW.weights, Tryz.underlying37, hb1, List.all_cons, Bool.and_eq_true, decide_eq_true_eq] at hw
      have h1 := hw.1
      have h2 : (lits (H := H) .i64 (zs.take l)).length = (zs.take l).length := by simp [lits]
      have := reachK
      omega

theorem weightsK_all {P : Program} {e : TypeId} : ∀ {ds : List (DataW H)} {d : DataW H}, d ∈ ds → ∀ n ∈ d.weights P e, n ∈ DataW.weightsAll P e ds
  | d0 :: ds, d, hd, n, hn => by
    simp only [DataW.weightsAll, List.mem_append]
    rcases List.mem_cons.1 hd with rfl | hd
    · exact .inl hn
    · exact .inr (weightsK_all hd n hn)

instance : Inhabited OpK := ⟨⟨0, ⟨#[]⟩, ⟨#[]⟩, none, 0, [], 0, none, 0, []⟩⟩

end
end Go.Proofs.YtdbphdllibffnaaGreat
