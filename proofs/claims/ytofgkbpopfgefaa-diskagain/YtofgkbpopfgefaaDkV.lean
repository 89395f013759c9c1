/- What was put and synced stays, whatever is done to other files: data alone. -/
import Derived.Test.YtofgkbpopfgefaaDkS
namespace Go.Proofs.Ytofgkbpopfgefaa
open Go.RowKit
set_option maxRecDepth 8000

theorem mem_upd {fs : List FiD} {n : ByteArray} (g : FiD → FiD) (hh : hasF fs n = true) {f : FiD} (hf : f ∈ fs) (hn : f.name ≠ n) : f ∈ updF fs n g := by
  obtain ⟨h1, h2⟩ := (hasF_iff _ _).1 hh
  unfold updF
  rw [List.getElem?_eq_getElem h1]
  obtain ⟨k, hk, rfl⟩ := List.getElem_of_mem hf
  have hne : pl fs n ≠ k := fun e => hn (by subst e; exact h2)
  exact List.mem_iff_getElem?.2 ⟨k, by rw [List.getElem?_set, if_neg hne]; exact List.getElem?_eq_getElem hk⟩

theorem mem_drop {fs : List FiD} {n : ByteArray} {f : FiD} (hf : f ∈ fs) (hn : f.name ≠ n) : f ∈ fs.eraseIdx (dropI fs n) := by
  unfold dropI
  cases hh : hasF fs n
  · rw [if_neg (by simp), List.eraseIdx_of_length_le (Nat.le_refl _)]; exact hf
  · rw [if_pos rfl]
    obtain ⟨h1, h2⟩ := (hasF_iff _ _).1 hh
    obtain ⟨k, hk, rfl⟩ := List.getElem_of_mem hf
    have hne : k ≠ pl fs n := fun e => hn (by subst e; exact h2)
    by_cases hlt : k < pl fs n
    · exact List.mem_iff_getElem?.2 ⟨k, by rw [getElem?_erase, if_pos hlt]; exact List.getElem?_eq_getElem hk⟩
    · exact List.mem_iff_getElem?.2 ⟨k - 1, by rw [getElem?_erase, if_neg (by omega), show k - 1 + 1 = k by omega]; exact List.getElem?_eq_getElem hk⟩

theorem mem_ins {fs : List FiD} {f : FiD} (g : FiD) (hf : f ∈ fs) : f ∈ insF fs g := by
  unfold insF
  rw [← List.take_append_drop (pl fs g.name) fs] at hf
  rcases List.mem_append.1 hf with h | h
  · exact List.mem_append.2 (.inl h)
  · exact List.mem_append.2 (.inr (List.mem_cons_of_mem _ h))

theorem off_files (D : DkD) : D.off.files = D.files := by unfold DkD.off; split <;> rfl

theorem mem_act {D : DkD} {e : Int} {fs : List FiD} {f : FiD} (hf : f ∈ D.files) (h : e = 0 → f ∈ fs) : f ∈ (D.act e fs).2.files := by
  unfold DkD.act
  split
  · rename_i he
    split
    · rw [off_files]; exact hf
    · exact h he
  · exact hf

theorem mem_actK {D : DkD} {o : OpK} {f : FiD} (hf : f ∈ D.files) (hn : o.name ≠ f.name) (hd : o.dest ≠ f.name) : f ∈ (actK D o).2.files := by
  unfold actK
  split
  · refine mem_act hf fun _ => ?_
    unfold appF
    split
    · rename_i hh; exact mem_upd _ hh hf (Ne.symm hn)
    · exact mem_ins _ hf
  · split
    · exact mem_act hf fun e => mem_upd _ (errO_zero e).2.2 hf (Ne.symm hn)
    · split
      · exact mem_act hf fun e => mem_upd _ (errO_zero (errC_zero e).1).2.2 hf (Ne.symm hn)
      · split
        · refine mem_act hf fun _ => ?_
          unfold renF
          split
          · unfold movF
            exact mem_ins _ (mem_drop (mem_drop hf (Ne.symm hn)) (Ne.symm hd))
          · exact hf
        · split
          · exact mem_act hf fun _ => mem_drop hf (Ne.symm hn)
          · exact hf

abbrev ownN : ByteArray := ⟨#[111, 119, 110, 46, 102, 105, 108, 101, 46, 111, 102, 46, 116, 104, 105, 115, 46, 112, 108, 97, 121]⟩

theorem own_nm : isNm ownN = true := by decide +kernel

/-- The disk behind the put and the sync. -/
theorem own_put (room : Int) (ys : List Int) : (newD room).errA ownN ys.length = if (ys.length : Int) ≤ room then 0 else 21 := by
  unfold DkD.errA
  rw [if_pos rfl, own_nm, if_pos rfl, if_neg (by simp)]
  simp [usedD]

abbrev ownD (room : Int) (ys : List Int) : DkD := ⟨[⟨ownN, ys, 0⟩], room, true, -1, 1⟩
abbrev ownS (room : Int) (ys : List Int) : DkD := ⟨[⟨ownN, ys, ys.length⟩], room, true, -1, 2⟩

theorem own_one {room : Int} {ys : List Int} (h : (ys.length : Int) ≤ room) : (newD room).act ((newD room).errA ownN ys.length) (appF (newD room).files ownN ys) = (0, ownD room ys) := by
  rw [own_put, if_pos h]
  have e : appF [] ownN ys = [⟨ownN, ys, 0⟩] := by
    unfold appF
    have : hasF [] ownN = false := by simp [hasF]
    rw [this]
    rfl
  unfold DkD.act DkD.done
  simp only [e]
  rfl

theorem own_one' {room : Int} {ys : List Int} (h : ¬ (ys.length : Int) ≤ room) : (newD room).act ((newD room).errA ownN ys.length) (appF (newD room).files ownN ys) = (21, newD room) := by
  rw [own_put, if_neg h]
  rfl

theorem has_own (ys : List Int) (d : Int) : hasF [⟨ownN, ys, d⟩] ownN = true ∧ pl [⟨ownN, ys, d⟩] ownN = 0 := by
  have h0 : pl [⟨ownN, ys, d⟩] ownN = 0 := by
    rw [pl_cons, if_neg]
    show ¬ ncmp ownN ownN < 0
    rw [ncmp_self]
    omega
  refine ⟨(hasF_iff _ _).2 ⟨by rw [h0]; simp, ?_⟩, h0⟩
  simp [h0]

theorem own_two (room : Int) (ys : List Int) : (ownD room ys).act ((ownD room ys).errO ownN) (updF (ownD room ys).files ownN durF) = (0, ownS room ys) := by
  obtain ⟨h1, h2⟩ := has_own ys 0
  have e : (ownD room ys).errO ownN = 0 := by
    unfold DkD.errO
    rw [if_pos rfl, own_nm, if_pos rfl]
    show (if hasF [⟨ownN, ys, 0⟩] ownN = true then (0 : Int) else 20) = 0
    rw [h1]
    rfl
  have e2 : updF [⟨ownN, ys, 0⟩] ownN durF = [⟨ownN, ys, ys.length⟩] := by
    unfold updF
    rw [h2]
    rfl
  rw [e]
  unfold DkD.act DkD.done
  simp only [e2]
  rfl

theorem own_two' (room : Int) : (newD room).act ((newD room).errO ownN) (updF (newD room).files ownN durF) = (20, newD room) := by
  have e : (newD room).errO ownN = 20 := by
    unfold DkD.errO
    rw [if_pos rfl, own_nm, if_pos rfl]
    have : hasF [] ownN = false := by simp [hasF]
    show (if hasF [] ownN = true then (0 : Int) else 20) = 20
    rw [this]
    rfl
  rw [e]
  rfl

/-- A loss of power leaves a durable file as it was. -/
theorem own_last {D : DkD} (ok : DkOk D) {n : ByteArray} {ys : List Int} (hf : (⟨n, ys, ys.length⟩ : FiD) ∈ D.files) (ks : List Int) : (D.off.start ks).errO n = 0 ∧ ∀ f, (D.off.start ks).files[pl (D.off.start ks).files n]? = some f → f.bytes = ys := by
  obtain ⟨hon, hfs⟩ := off_start D ks
  have hr : Rise (lossF D.files ks) := (ok.fok.loss ks).rise
  obtain ⟨k, hk, e⟩ := List.getElem_of_mem hf
  have hk2 : k < (lossF D.files ks).length := by simp [lossF]; exact hk
  have hg : (lossF D.files ks)[k] = ⟨n, ys, ys.length⟩ := by
    have hl : leftN (⟨n, ys, ys.length⟩ : FiD) (ks.getD k 0) = ys.length := by unfold leftN; simp only; omega
    simp only [lossF, List.getElem_mapIdx, e, lossAt]
    rw [hl, List.take_of_length_le (Nat.le_refl _)]
  have hp : pl (lossF D.files ks) n = k := at_pl hr hk2 (by rw [hg])
  have hh : hasF (lossF D.files ks) n = true := (hasF_mem hr n).2 ⟨_, List.getElem_mem hk2, by rw [hg]⟩
  rw [hfs]
  refine ⟨?_, fun f h => ?_⟩
  · unfold DkD.errO
    have hnm : isNm n = true := ok.nms _ hf
    rw [hon, if_pos rfl, hnm, if_pos rfl, hfs, hh]
    rfl
  · rw [hp, List.getElem?_eq_getElem hk2, hg] at h
    exact (Option.some.inj h) ▸ rfl
end Go.Proofs.Ytofgkbpopfgefaa
