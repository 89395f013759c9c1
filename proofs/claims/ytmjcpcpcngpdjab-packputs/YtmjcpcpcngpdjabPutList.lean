/- What PutList of whole numbers does with the function putNumber: it puts how many there are, then the eight bytes of each. -/
import Derived.Test.YtmjcpcpcngpdjabRefInts
import Derived.Defers
import Derived.Recover
namespace Go.Proofs.Ytmjcpcpcngpdjab
open Go.RowKit

/-- The slice value v leads to the int64 numbers xs. -/
def SeesI (w : World) (v : Value) (xs : List Int) : Prop :=
  ∃ (ao : Option Addr) (cap : Nat), v = .slice ao xs.length cap ∧ xs.length ≤ cap ∧ cap ≤ maxLen ∧ (xs = [] ∨ ∃ b off, ao = some ⟨b, off, none⟩ ∧ ∀ i, i < xs.length → w.cell? ⟨b, off + i, none⟩ = some (.int .i64 (xs.getD i 0)))

theorem SeesI.kept {w w' : World} {S : Nat → Prop} {v : Value} {xs : List Int} (h : SeesI w v xs) (hk : Kept w w' S) (hn : ∀ k, v.ownBlock = some k → ¬ S k) : SeesI w' v xs := by
  obtain ⟨ao, cap, rfl, h1, h2, h3⟩ := h
  refine ⟨ao, cap, rfl, h1, h2, ?_⟩
  rcases h3 with h3 | ⟨b, off, rfl, h3⟩
  · exact .inl h3
  · exact .inr ⟨b, off, rfl, fun i hi => hk.cell (h3 i hi) (hn b rfl)⟩

theorem putNumber_any (g : Nat) (v : Value) (xs : List Int) (n : Int) (w : World) (h : IsW w g v xs) (hb : xs.length + 8 ≤ 140737488355328) :
    Calls Try.prog 9 #[.pointer (some ⟨g, 0, none⟩), .int .i64 n] w fun e w' => e = .returned (.tuple #[]) ∧ Puts w g v (xs ++ be8 (up64 n)) w' := by
  have H : Hid (IsW w g v xs) := h
  clear h
  go_enter Try.func9, Try.ntmps9
  go_wp2_with fail
  refine (wInt64_any g v xs n _ H.out hb).mono ?_
  rintro e w1 ⟨rfl, hp⟩
  have HP : Hid (Puts w g v (xs ++ be8 (up64 n)) w1) := hp
  clear hp
  go_wp2
  go_end0
  exact ⟨rfl, HP.out⟩

theorem putDef (w : World) : CallsD Try.prog 29 #[] .returning w fun e u' w' => e = .returned (.tuple #[]) ∧ u' = .returning ∧ w' = w := by
  refine callsD_of_wpS Try.func29 rfl fun c₀ cs hu => ?_
  apply wpS_region
  simp [wpOpsS, go_sem, recoverD, hu, Try.ntmps29, bodyPostS, results, Try.results29]
  cases c₀
  simp_all

/-- The bytes of a list of whole numbers. -/
def listBytes (l : List Int) : List Int := l.flatMap fun n => be8 (up64 n)

theorem listBytes_next (l : List Int) (k : Nat) (hlt : k < l.length) : listBytes (l.take (k + 1)) = listBytes (l.take k) ++ be8 (up64 (l.getD k 0)) := by
  rw [take_next l k hlt]; simp [listBytes]

theorem listBytes_len (m : List Int) : (listBytes m).length = 8 * m.length := by
  induction m with
  | nil => rfl
  | cons x m ih =>
    have e : listBytes (x :: m) = be8 (up64 x) ++ listBytes m := rfl
    rw [e, List.length_append, ih]
    simp [be8, be4]; omega

theorem listBytes_len_le (l : List Int) (k : Nat) : (listBytes (l.take k)).length ≤ 8 * k := by
  rw [listBytes_len]; simp; omega

set_option maxHeartbeats 400000 in
theorem putList_any (g : Nat) (v u : Value) (xs l : List Int) (w : World) (h : IsW w g v xs) (hl : SeesI w u l) (hr : l.length ≤ 4194304) (hb : xs.length ≤ 70000000000) (hap : ∀ k, u.ownBlock = some k → k ≠ g ∧ v.ownBlock ≠ some k ∧ k < w.heap.size) :
    Calls Try.prog 8 #[.pointer (some ⟨g, 0, none⟩), u, .func (.func 9) #[] #[]] w fun e w' => e = .returned (.tuple #[]) ∧ Puts w g v (xs ++ be4 l.length ++ listBytes l) w' := by
  have H : Hid (IsW w g v xs ∧ SeesI w u l) := ⟨h, hl⟩
  obtain ⟨ao, cap, rfl, hlc, hcm, h3⟩ := hl
  unfold maxLen at hcm
  clear h h3
  have hfn : ∀ w, (binOp .eql 31 (.func (.func 9) #[] #[]) .nilFunc).run Try.prog w = .ok (.bool false) w := fun _ => by kernel_rfl
  go_enter_defers Try.func8, Try.ntmps8
  go_wp2_with fail
  refine (wInt32_any g v xs l.length _ H.out.1 (by omega)).mono ?_
  rintro e w1 ⟨rfl, hp⟩
  rw [show up32 (l.length : Int) = l.length by unfold up32; omega] at hp
  have HP : Hid (Puts w g v (xs ++ be4 l.length) w1) := hp
  clear hp
  go_wp2
  go_loopw [7, 19] (fun _ i wr => ∃ k : Nat, k ≤ l.length ∧ i = .int .i64 k ∧ Puts w g v (xs ++ be4 l.length ++ listBytes (l.take k)) wr) (fun _ i _ => l.length - (intOf i).toNat)
  case atStart => exact ⟨0, Nat.zero_le _, rfl, by simpa [listBytes] using HP.out⟩
  case round =>
    clear HP
    obtain ⟨k, hk, rfl, hp⟩ := hrel
    have HP : Hid (Puts w g v (xs ++ be4 l.length ++ listBytes (l.take k)) wr) := hp
    clear hp
    by_cases hlt : k < l.length
    · obtain ⟨vk, hW, hN, hK⟩ := HP.out
      obtain ⟨ao', cap', e, _, _, h3⟩ := SeesI.kept H.out.2 hK (fun k hk hs => by
        have := hap k hk
        rcases hs with hs | hs
        · exact this.1 hs
        · exact this.2.1 hs)
      simp at e
      obtain ⟨rfl, rfl⟩ := e
      rcases h3 with h3 | ⟨b, off, rfl, h3⟩
      · subst h3; simp at hlt
      · have hc := h3 k hlt
        have HW : Hid (IsW wr g vk (xs ++ be4 l.length ++ listBytes (l.take k)) ∧ NewRow w v vk ∧ Kept w wr (fun k => k = g ∨ v.ownBlock = some k)) := ⟨hW, hN, hK⟩
        have HT : Hid (listBytes (l.take (k + 1)) = listBytes (l.take k) ++ be8 (up64 (l.getD k 0))) := listBytes_next l k hlt
        have HL : Hid ((listBytes (l.take k)).length ≤ 8 * k) := listBytes_len_le l k
        clear h3 hW hN hK
        generalize l.getD k 0 = x at *
        go_wp2_with fail
        refine (putNumber_any g vk _ x _ HW.out.1 (by have := HL.out; simp [be4]; omega)).mono ?_
        rintro e w2 ⟨rfl, hp2⟩
        have hp3 := Puts.next HW.out.2.1 HW.out.2.2 hp2
        rw [List.append_assoc, ← HT.out] at hp3
        have HP2 : Hid (Puts w g v (xs ++ be4 l.length ++ listBytes (l.take (k + 1))) w2) := hp3
        clear hp2 hp3
        go_wp2
        go_roundw
        case rel => exact ⟨k + 1, by omega, by go_num, HP2.out⟩
        case measure => simp [intOf]; omega
    · obtain rfl : k = l.length := by omega
      have hp := HP.out
      rw [List.take_length] at hp
      have HQ : Hid (Puts w g v (xs ++ be4 l.length ++ listBytes l) wr) := hp
      clear hp HP
      go_wp2
      refine leaves_cons (f := 29) (args := #[]) (by simp) (by simp [go_sem]) ?_
      refine (putDef _).mono ?_
      rintro e u' w'' ⟨rfl, rfl, rfl⟩
      exact ⟨_, results_none rfl _ _ _, rfl, HQ.out⟩

end Go.Proofs.Ytmjcpcpcngpdjab
