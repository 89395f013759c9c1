/- What pack.Sum and EqBytes of lagoonref00 answer: the Adler-32 sum of the bytes that are given; whether two lists of bytes are the same. -/
import Derived.Test.YtdbphdllibffnaaGreatProg
import Derived.Test.YtdbphdllibffnaaGreatDkPJ
import Derived.Test.YtdbphdllibffnaaGreatDkRJ
import Derived.Test.YtdbphdllibffnaaGreatChecked
import Derived.Test.YtdbphdllibffnaaGreatShelfCJ
import Derived.Deep.AppendLies
import Derived.Shelf.Abstract
import Derived.Deep.RegionHeld
import Derived.Lib.SlFresh
import Derived.Lib.AppendZerosOnto
import Derived.Laws.CopyRow
import Derived.Test.YtdbphdllibffnaaGreatCopyJ
import Derived.Laws.CopyOwn
import Derived.Lib.SlBytesConst
import Derived.Lib.SliceRun
namespace Go.Proofs.YtdbphdllibffnaaGreat
open Go.RowKit
set_option maxRecDepth 8000

set_option maxHeartbeats 400000 in
theorem packSum_any (v : Value) (xs : List Int) (w : World) (h : Sees w v xs) (hb : Byts xs) :
    Calls Tryz.prog 114 #[v] w fun e w' => e = .returned (.int .u32 (adler xs)) ∧ w' = w := by
  obtain ⟨ao, cap, rfl, hlc, hcm, _, h3⟩ := h
  unfold maxLen at hcm
  go_enter Tryz.func114, Tryz.ntmps114
  go_wp2
  go_loop [3, 4, 9] (fun lo hi i => ∃ k : Nat, k ≤ xs.length ∧ i = .int .i64 k ∧ lo = .int .u32 (adl (xs.take k)).1 ∧ hi = .int .u32 (adl (xs.take k)).2) (fun _ _ i => xs.length - (intOf i).toNat)
  case atStart => exact ⟨0, Nat.zero_le _, rfl, rfl, rfl⟩
  case round =>
    obtain ⟨k, hk, rfl, rfl, rfl⟩ := hrel
    have hd := adl_bd (xs.take k)
    by_cases hlt : k < xs.length
    · rcases h3 with h3 | ⟨b, off, rfl, h3⟩
      · subst h3; simp at hlt
      · have hc := h3 k hlt
        have hx := hb.nth k
        have HS : Hid _ := adl_next xs k hlt
        generalize xs.getD k 0 = x at *
        generalize hA : (adl (xs.take k)).1 = A at *
        generalize hB : (adl (xs.take k)).2 = B at *
        clear hA hB h3 hb
        go_wp2
        go_round
        case rel => exact ⟨k + 1, by omega, by go_num, by rw [HS.out.1], by rw [HS.out.2]⟩
        case measure => simp [intOf]; omega
    · obtain rfl : k = xs.length := by omega
      rw [List.take_length] at *
      go_wp2
      go_ret
      exact ⟨ret_int (adler_bits xs), rfl⟩

set_option maxHeartbeats 400000 in
theorem eqBytes_any (v u : Value) (xs ys : List Int) (w : World) (h : Sees w v xs) (g : Sees w u ys) :
    Calls Tryz.prog 35 #[v, u] w fun e w' => e = .returned (.bool (decide (xs = ys))) ∧ ∃ n, w' = w.drewN n := by
  obtain ⟨ao, cap, rfl, hlc, hcm, _, h3⟩ := h
  obtain ⟨bo, cbp, rfl, glc, gcm, _, g3⟩ := g
  unfold maxLen at hcm gcm
  by_cases hl : xs.length = ys.length
  · have hl1 : xs.length ≤ ys.length := by omega
    have hl2 : ys.length ≤ xs.length := by omega
    have hn0 : ((xs.length : Int) != (ys.length : Int)) = false := by simp; omega
    clear hl
    go_enter Tryz.func35, Tryz.ntmps35
    go_wp2
    go_loopw [5] (fun i wr => ∃ k m : Nat, k ≤ xs.length ∧ i = .int .i64 k ∧ xs.take k = ys.take k ∧ wr = w.drewN m) (fun i _ => xs.length - (intOf i).toNat)
    case atStart => exact ⟨0, 0, Nat.zero_le _, rfl, rfl, rfl⟩
    case round =>
      obtain ⟨k, m, hk, rfl, heq, rfl⟩ := hrel
      have HE : Hid _ := heq
      clear heq
      by_cases hlt : k < xs.length
      · rcases h3 with h3 | ⟨b, off, rfl, h3⟩
        · subst h3; simp at hlt
        · rcases g3 with g3 | ⟨b', off', rfl, g3⟩
          · have : ys.length = 0 := by rw [g3]; rfl
            omega
          · have hlt' : k < ys.length := by omega
            have hc := h3 k hlt
            have gc := g3 k hlt'
            have HN : Hid _ := take_next_eq hlt hlt' HE.out
            have HD : Hid _ := ne_of_nth (xs := xs) (ys := ys) k
            clear h3 g3
            generalize xs.getD k 0 = x at *
            generalize ys.getD k 0 = y at *
            by_cases hxy : x = y
            · subst hxy
              go_wp2
              go_region
              all_goals go_wp2
              all_goals go_roundw
              case rel => exact ⟨k + 1, _, by omega, by go_num, HN.out trivial, rfl⟩
              case measure => simp [intOf]; omega
            · have hne : (x != y) = true := by simp [hxy]
              clear hxy
              go_wp2
              go_region
              all_goals go_wp2
              all_goals go_ret
              have hxy : x ≠ y := by simpa using hne
              exact ⟨by rw [decide_eq_false (HD.out hxy)]; rfl, _, rfl⟩
      · have he : xs = ys := by
          have := HE.out
          rw [List.take_of_length_le (by omega), List.take_of_length_le (by omega)] at this
          exact this
        subst he
        go_wp2
        go_ret
        exact ⟨by simp, _, rfl⟩
  · have hn : ((xs.length : Int) != (ys.length : Int)) = true := by simp; omega
    have hq : xs ≠ ys := fun e => hl (by rw [e])
    have HQ : Hid _ := hq
    clear hl hq
    go_enter Tryz.func35, Tryz.ntmps35
    go_wp2
    go_ret
    exact ⟨by rw [decide_eq_false HQ.out]; rfl, 0, rfl⟩

end Go.Proofs.YtdbphdllibffnaaGreat

/- DiskCrash's parts: what an image holds, kept; Left. -/
namespace Go.Proofs.YtdbphdllibffnaaGreat
open Go.RowKit Go.Shelf
set_option maxRecDepth 8000

theorem ImgAt.kept {w w' : World} {S : Nat → Prop} {B : Nat} {v : Value} {fs : List FiD} {vs : List Value} (h : ImgAt w B v fs vs) (hk : Kept w w' S) (hS : ∀ k, S k → k < B ∨ w.heap.size ≤ k) : ImgAt w' B v fs vs := by
  have hb : ∀ {e : TypeId} {z : Nat} {u : Value} {n : Nat} {xs : List Value}, w.ownsRow B e z u n xs → ∀ k, u.ownBlock = some k → ¬ S k := by
    intro e z u n xs ho k hko hs
    obtain ⟨_, ⟨rfl, _⟩ | ⟨g, cap, cur, rfl, h2, h3, _⟩⟩ := ho
    · cases hko
    · have hgk : g = k := by simpa [Value.ownBlock] using hko
      have hgl := lt_of_block h3
      rcases hS k hs with e | e <;> omega
  exact ⟨h.len, row_kept' h.own hk (hb h.own), fun i u f hu hf => row_kept' (h.bys i u f hu hf) hk (hb (h.bys i u f hu hf))⟩

theorem imgC_at (fs : List FiD) (vs : List Value) (h : vs.length = fs.length) (i : Nat) (hi : i < fs.length) (j : Nat) (hj : j < 3) : (imgC fs vs)[i * 3 + j]? = (fiC fs[i] (vs[i]'(by omega)))[j]? := by
  unfold imgC
  induction fs generalizing vs i with
  | nil => simp at hi
  | cons f fs ih =>
    cases vs with
    | nil => simp at h
    | cons u vs =>
      simp only [List.zipWith_cons_cons, List.flatten_cons]
      cases i with
      | zero => rw [Nat.zero_mul, Nat.zero_add, List.getElem?_append_left (by simp; omega)]; rfl
      | succ i =>
        rw [List.getElem?_append_right (by simp; omega)]
        have := ih vs (by simpa using h) i (by simpa using hi)
        simp only [List.length_cons, List.length_nil]
        rw [show (i + 1) * 3 + j - (0 + 1 + 1 + 1) = i * 3 + j by omega, this]
        rfl

/-- The cells of a file of an image. -/
theorem ImgAt.cells {w : World} {B : Nat} {g n c : Nat} {fs : List FiD} {vs : List Value} (h : ImgAt w B (.slice (some ⟨g, 0, none⟩) n c) fs vs) (i : Nat) (hi : i < fs.length) : ∃ u, vs[i]? = some u ∧ w.cell? ⟨g, i * 3, none⟩ = some (.string fs[i].name) ∧ w.cell? ⟨g, i * 3 + 1, none⟩ = some u ∧ w.cell? ⟨g, i * 3 + 2, none⟩ = some (.int .i64 fs[i].dur) ∧ Owns w B u fs[i].bytes := by
  obtain ⟨_, ⟨e, _⟩ | ⟨g', cap, cur, e, _, h3, h4, _, h6, h7⟩⟩ := h.own
  · cases e
  obtain ⟨rfl, _, rfl⟩ : g = g' ∧ n = fs.length ∧ c = cap := by simpa using e
  have hv : i < vs.length := by rw [h.len]; exact hi
  have hat : ∀ j, j < 3 → w.cell? ⟨g, i * 3 + j, none⟩ = (fiC fs[i] vs[i])[j]? := fun j hj => by
    rw [cell_of_row w g _ _ _ _ h3, ← imgC_at fs vs h.len i hi j hj, ← h7, List.getElem?_take, if_pos (by omega), Array.getElem?_toList]
  exact ⟨vs[i], List.getElem?_eq_getElem hv, hat 0 (by omega), hat 1 (by omega), hat 2 (by omega), h.bys i _ _ (List.getElem?_eq_getElem hv) (List.getElem?_eq_getElem hi)⟩

theorem left_any (t k : Int) (w : World) (ht : 0 ≤ t) : Calls Tryz.prog 72 #[.int .i64 t, .int .i64 k] w fun e w' => e = .returned (.int .i64 (min (max k 0) t)) ∧ w' = w := by
  by_cases h0 : k < 0
  · have hd : decide (k < 0) = true := decide_eq_true h0
    have e : min (max k 0) t = 0 := by omega
    rw [e]
    go_enter Tryz.func72, Tryz.ntmps72
    go_wp2_with fail
    go_ret
    exact ⟨rfl, rfl⟩
  · have hd : decide (k < 0) = false := decide_eq_false h0
    by_cases h1 : k > t
    · have hd1 : decide (k > t) = true := decide_eq_true h1
      have e : min (max k 0) t = t := by omega
      rw [e]
      clear e
      go_enter Tryz.func72, Tryz.ntmps72
      go_wp2_with fail
      go_ret
      exact ⟨rfl, rfl⟩
    · have hd1 : decide (k > t) = false := decide_eq_false h1
      have e : min (max k 0) t = k := by omega
      rw [e]
      clear e
      go_enter Tryz.func72, Tryz.ntmps72
      go_wp2_with fail
      go_ret
      exact ⟨rfl, rfl⟩

end Go.Proofs.YtdbphdllibffnaaGreat

/- What the calls of package disk answer of a disk that nobody made: a nil one and a plain one. -/
namespace Go.Proofs.YtdbphdllibffnaaGreat
open Go.RowKit Go.Shelf
set_option maxRecDepth 8000

end Go.Proofs.YtdbphdllibffnaaGreat

/- Package disk at one small file named a: what is only read. -/
namespace Go.Proofs.YtdbphdllibffnaaGreat
open Go.RowKit Go.Shelf
set_option maxRecDepth 8000

end Go.Proofs.YtdbphdllibffnaaGreat

/- Package disk at one small file named a: the steps of a write. -/
namespace Go.Proofs.YtdbphdllibffnaaGreat
open Go.RowKit Go.Shelf
set_option maxRecDepth 8000

end Go.Proofs.YtdbphdllibffnaaGreat

/- Package disk at one small file named a: bytes put behind a file's end. -/
namespace Go.Proofs.YtdbphdllibffnaaGreat
open Go.RowKit Go.Shelf
set_option maxRecDepth 8000

end Go.Proofs.YtdbphdllibffnaaGreat

/- Package disk at one small file named a: the first Append, and the one behind it. -/
namespace Go.Proofs.YtdbphdllibffnaaGreat
open Go.RowKit Go.Shelf
set_option maxRecDepth 8000

section
variable {w V V' : World} {d b f g cF : Nat} {rF cur : Array Value} {l : Nat} {dur wr : Int} {on : Bool}

end

end Go.Proofs.YtdbphdllibffnaaGreat

/- Package disk at one small file named a: Sync, Off, Start, Read. -/
namespace Go.Proofs.YtdbphdllibffnaaGreat
open Go.RowKit Go.Shelf
set_option maxRecDepth 8000

section
variable {w0 V : World} {d b f g cF : Nat} {rF cur : Array Value} {l : Nat} {dur nw : Int} {on : Bool}

end

end Go.Proofs.YtdbphdllibffnaaGreat

/- Package disk at one small file named a: the second Append, New, and what lives of the statements of layer 2 answers. -/
namespace Go.Proofs.YtdbphdllibffnaaGreat
open Go.RowKit Go.Shelf
set_option maxRecDepth 8000

section
variable {w0 V : World} {d b f g cF : Nat} {rF cur : Array Value}

end

end Go.Proofs.YtdbphdllibffnaaGreat

/- DiskCrash of the statements of layer 2, walked: true for every room, script and list of what is kept. -/
namespace Go.Proofs.YtdbphdllibffnaaGreat
open Go.RowKit Go.Shelf
set_option maxRecDepth 8000

end Go.Proofs.YtdbphdllibffnaaGreat

/- What the Writer's calls of package pack do: each puts the bytes of its value behind those that the Writer has. -/
namespace Go.Proofs.YtdbphdllibffnaaGreat
open Go.RowKit
set_option maxRecDepth 8000

theorem Tryz.infoByte' : (Tryz.prog.info? 5).map (fun i => (i.zero, i.size, i.bytes)) = some (some (.int .u8 0), 1, 1) := by kernel_rfl

/-- What a call that puts bytes leaves: the Writer at g with the bytes xs; all else but its row is as it was. -/
def Puts (w : World) (g : Nat) (v : Value) (xs : List Int) (w' : World) : Prop :=
  ∃ v', IsW w' g v' xs ∧ NewRow w v v' ∧ Kept w w' (fun k => k = g ∨ v.ownBlock = some k)

/-- Behind an append to the field and the store of what it answers. -/
theorem puts_mk {w w1 : World} {g : Nat} {v v' : Value} {xs ys : List Int} (h : IsW w g v xs) (hown : Owns w1 0 v' (xs ++ ys)) (hgrow : w.grownBy w1 v.ownBlock) (hnew : NewRow w v v') :
    Puts w g v (xs ++ ys) (w1.setCell ⟨g, 0, none⟩ v') := by
  have hk : Kept w w1 (fun k => k = g ∨ v.ownBlock = some k) := (Kept.refl w _).grown hgrow (fun k _ e => .inr e)
  have hg1 : w1.heap[g]? = some (.cells #[v] 112 (0, 0)) := by
    rw [hgrow.block g (lt_of_block h.1) (fun e => h.apart e.symm)]; exact h.1
  have hap : v'.ownBlock ≠ some g := by
    rcases hnew with e | ⟨k, e, hk⟩
    · rw [e]; exact h.apart
    · rw [e]; intro e2; simp at e2; subst e2; have := lt_of_block h.1; omega
  exact ⟨v', ⟨one_setCell hg1, ownsRow_setCell_other hown hap _⟩, hnew, hk.setCell _ _ (fun _ => .inl rfl)⟩

theorem Puts.next {w w1 w2 : World} {g : Nat} {v v1 : Value} {ys : List Int} (hnew : NewRow w v v1) (hk : Kept w w1 (fun k => k = g ∨ v.ownBlock = some k)) (h2 : Puts w1 g v1 ys w2) : Puts w g v ys w2 := by
  obtain ⟨v2, k1, k2, k3⟩ := h2
  refine ⟨v2, k1, ?_, hk.trans k3 ?_⟩
  · rcases k2 with e | ⟨b, e, hb⟩
    · rcases hnew with e' | ⟨b, e', hb⟩
      · exact .inl (e.trans e')
      · exact .inr ⟨b, e.trans e', hb⟩
    · exact .inr ⟨b, e, by have := hk.size; omega⟩
  · intro b hb hs
    rcases hs with hs | hs
    · exact .inl hs
    · rcases hnew with e' | ⟨b', e', hb'⟩
      · exact .inr (by rw [← e']; exact hs)
      · rw [e'] at hs; simp at hs; omega

set_option maxHeartbeats 400000 in
theorem add_any (g : Nat) (v u : Value) (xs ys : List Int) (w : World) (h : IsW w g v xs) (hu : Sees w u ys) (hb : xs.length + ys.length ≤ 140737488355328) :
    Calls Tryz.prog 115 #[.pointer (some ⟨g, 0, none⟩), u] w fun e w' => e = .returned (.tuple #[]) ∧ Puts w g v (xs ++ ys) w' := by
  obtain ⟨i0, hi, hz0, hz1, hz2⟩ := info_parts Tryz.infoByte'
  have hc := cell_of_one h.1
  have hf := free_of_one h.1
  have H : Hid (IsW w g v xs) := h
  have HU : Hid (Sees w u ys) := hu
  clear h hu
  go_enter Tryz.func115, Tryz.ntmps115
  go_wp2_with (at_builtin; refine wpList_app _ rfl _ _ 36 rfl i0 Tryz.underlying36 hi hz0 hz1 hz2 v u xs ys rfl rfl H.out.2 HU.out hb ?_)
  intro v' w1 hown hgrow hnew
  have R := puts_mk H.out hown hgrow hnew
  have hc1 : w1.cell? ⟨g, 0, none⟩ = some v := hgrow.cell hc (fun e => H.out.apart e.symm)
  have hf1 : w1.frozen? ⟨g, 0, none⟩ = false := by
    rw [World.frozen?_of_block (hgrow.block g (lt_of_block H.out.1) (fun e => H.out.apart e.symm))]; exact hf
  have HR : Hid (Puts w g v (xs ++ ys) (w1.setCell ⟨g, 0, none⟩ v')) := R
  obtain ⟨ao', n', c', hv'⟩ := owns_shape hown
  clear R hown hgrow hnew hc hf
  subst hv'
  go_wp2
  go_end0
  exact ⟨rfl, HR.out⟩

/-- A list of bytes that has just been laid in a new block. -/
theorem sees_new {w : World} (cs : Array Value) (ys : List Int) (hl : ys.length ≤ 4096) (h : cs.toList = ys.map (Value.int .u8)) : Sees (w.alloc (.cells cs 5)) (.slice (some ⟨w.heap.size, 0, none⟩) ys.length ys.length) ys := by
  refine ⟨_, _, rfl, Nat.le_refl _, by unfold maxLen; omega, fun e => by simp at e, .inr ⟨_, _, rfl, fun i hi => ?_⟩⟩
  rw [Nat.zero_add, cell_of_row _ w.heap.size i cs 5 (0, 0) (heap_alloc_new w _), ← Array.getElem?_toList, h]
  simp [hi, List.getD_eq_getElem?_getD]

theorem IsW.alloc {w : World} {g : Nat} {v : Value} {xs : List Int} (h : IsW w g v xs) (o : Obj) : IsW (w.alloc o) g v xs := h.kept ((Kept.refl w (fun _ => False)).alloc o) (fun h => h) (fun _ _ h => h)

theorem Puts.of_alloc {w w' : World} {o : Obj} {g : Nat} {v : Value} {xs : List Int} (h : Puts (w.alloc o) g v xs w') : Puts w g v xs w' := by
  obtain ⟨v', h1, h2, h3⟩ := h
  refine ⟨v', h1, ?_, ((Kept.refl w _).alloc o).trans h3 (fun _ _ h => h)⟩
  rcases h2 with e | ⟨k, e, hk⟩
  · exact .inl e
  · exact .inr ⟨k, e, by simp at hk; omega⟩

/-- The bytes of a number from 0 on, the highest first. -/
def be4 (n : Int) : List Int := [n / 16777216, n / 65536 % 256, n / 256 % 256, n % 256]

set_option maxHeartbeats 400000 in
theorem wUint32_any (g : Nat) (v : Value) (xs : List Int) (n : Int) (w : World) (h : IsW w g v xs) (hn : 0 ≤ n) (hn' : n < 4294967296) (hb : xs.length + 4 ≤ 140737488355328) :
    Calls Tryz.prog 79 #[.pointer (some ⟨g, 0, none⟩), .int .u32 n] w fun e w' => e = .returned (.tuple #[]) ∧ Puts w g v (xs ++ be4 n) w' := by
  have H : Hid (IsW w g v xs) := h
  clear h
  go_enter Tryz.func79, Tryz.ntmps79
  go_wp2_with fail
  refine (add_any g v _ xs (be4 n) _ (H.out.alloc _) (sees_new _ (be4 n) (by simp [be4]) (by simp [be4])) (by simp [be4]; omega)).mono ?_
  rintro e w1 ⟨rfl, hp⟩
  have HP : Hid (Puts w g v (xs ++ be4 n) w1) := hp.of_alloc
  clear hp
  go_wp2
  go_end0
  exact ⟨rfl, HP.out⟩

/-- bytes.Clone: nil of nil; else the bytes in a new row. -/
theorem clone_any (u : Value) (ys : List Int) (w : World) (hu : Sees w u ys) (hb : ys.length ≤ 140737488355328) :
    Calls Tryz.prog 84 #[u] w fun e w' => ∃ v', e = .returned v' ∧ Owns w' w.heap.size v' ys ∧ Below w.heap.size w w' := by
  obtain ⟨i0, hi, hz0, hz1, hz2⟩ := info_parts Tryz.infoByte'
  have HU : Hid (Sees w u ys) := hu
  obtain ⟨ao, cap, rfl, h1, h2, h0, h3⟩ := hu
  cases ao with
  | none =>
    have hy : ys = [] := List.eq_nil_of_length_eq_zero (by have := h0 rfl; omega)
    subst hy
    obtain rfl := h0 rfl
    clear HU h3
    have hnil : ∀ w, (binOp .eql 36 (.slice none 0 0) (.slice none 0 0)).run Tryz.prog w = .ok (.bool true) w := fun w => Lib.run_eql_slice_nil w 36 5 none 0 0 0 0 Tryz.underlying36
    go_enter Tryz.func84, Tryz.ntmps84
    go_wp2
    go_ret
    exact ⟨_, rfl, World.ownsRow_nil _ _ _ _, Below.refl _ _⟩
  | some ad =>
    clear h3 h0
    have hnil : ∀ w, (binOp .eql 36 (.slice (some ad) ys.length cap) (.slice none 0 0)).run Tryz.prog w = .ok (.bool false) w := fun w => Lib.run_eql_slice_nil w 36 5 (some ad) ys.length cap 0 0 Tryz.underlying36
    have hown0 : Owns (w.alloc (.cells #[] 5)) 0 (.slice (some ⟨w.heap.size, 0, none⟩) 0 0) [] := World.ownsRow_lit w #[] 0 (Nat.zero_le _) (Nat.zero_le _) rfl
    have HO : Hid (Owns (w.alloc (.cells #[] 5)) 0 (.slice (some ⟨w.heap.size, 0, none⟩) 0 0) []) := hown0
    clear hown0
    go_enter Tryz.func84, Tryz.ntmps84
    go_wp2_with (at_builtin; refine wpList_app _ rfl (.tmp 5) (.tmp 6) 36 rfl i0 Tryz.underlying36 hi hz0 hz1 hz2 _ _ [] ys rfl rfl HO.out (HU.out.below ((Below.refl w.heap.size _).alloc (Nat.le_refl _) _) (Nat.le_refl _)) (by simpa using hb) ?_)
    intro v' w1 hown hgrow hnew
    have hbel : Below w.heap.size w w1 := ((Below.refl w.heap.size w).alloc (Nat.le_refl _) _).grown hgrow (by simp) (fun k hk => by simp [Value.ownBlock] at hk; omega)
    have hown' : Owns w1 w.heap.size v' ys := owns_base hown (fun k hk => by
      rcases hnew with e | ⟨j, e, hj⟩
      · rw [e] at hk; simp [Value.ownBlock] at hk; omega
      · rw [e] at hk; simp at hk hj; omega)
    have HR : Hid (Owns w1 w.heap.size v' ys) := hown'
    clear hown hgrow hnew HO HU hown'
    go_wp2
    go_ret
    exact ⟨_, rfl, HR.out, hbel⟩

set_option maxHeartbeats 400000 in
theorem wBytes_any (g : Nat) (v : Value) (xs : List Int) (w : World) (h : IsW w g v xs) (hb : xs.length ≤ 140737488355328) :
    Calls Tryz.prog 82 #[.pointer (some ⟨g, 0, none⟩)] w fun e w' => ∃ v', e = .returned v' ∧ Owns w' w.heap.size v' xs ∧ Below w.heap.size w w' := by
  have hc := cell_of_one h.1
  have H : Hid (IsW w g v xs) := h
  clear h
  go_enter Tryz.func82, Tryz.ntmps82
  go_wp2_with fail
  refine (clone_any v xs _ (Sees.own H.out.2) hb).mono ?_
  rintro e w1 ⟨v', rfl, hp⟩
  have HP : Hid (Owns w1 w.heap.size v' xs ∧ Below w.heap.size w w1) := hp
  clear hp
  go_wp2
  go_ret
  exact ⟨_, rfl, HP.out⟩

end Go.Proofs.YtdbphdllibffnaaGreat
