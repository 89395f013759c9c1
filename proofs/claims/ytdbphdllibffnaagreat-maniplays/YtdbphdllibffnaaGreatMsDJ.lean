/- One call of both disks: the law's step answers true, and both are alike behind it. -/
import Derived.Test.YtdbphdllibffnaaGreatMrBJ
import Derived.Deep.QuietTactic
import Derived.BigQuiet
import Derived.Test.YtdbphdllibffnaaGreatMsBJ
import Derived.Test.YtdbphdllibffnaaGreatMsCJ
import Derived.Test.YtdbphdllibffnaaGreatMaXJ
namespace Go.Proofs.YtdbphdllibffnaaGreat
open Go.RowKit Go.Shelf
set_option maxRecDepth 8000

theorem both_dk {w w1 : World} {p q : Nat} {fv fv1 rv : Value} {ms ms1 : List FiM} {vs : List Value} {D1 : DkD} {R : RD} (hr : IsRd w q rv vs R) (hap : ∀ j ∈ foot p fv ms, j ∉ rfoot q rv vs) (ht : DkTo w p fv ms w1 D1 fv1 ms1) : IsRd w1 q rv vs R ∧ (∀ j ∈ foot p fv1 ms1, j ∉ rfoot q rv vs) := by
  refine ⟨hr.kept ht.kept (fun k hk e => hap k e hk), fun j hj hm => ?_⟩
  rcases ht.foot j hj with e | e
  · exact hap j e hm
  · have := hr.lt hm; omega

theorem both_rd {w w1 : World} {p q : Nat} {fv rv rv1 : Value} {ms : List FiM} {vs vs1 : List Value} {D : DkD} {R1 : RD} (hd : IsDk w p fv ms D) (hap : ∀ j ∈ foot p fv ms, j ∉ rfoot q rv vs) (ht : RdTo w q rv vs w1 R1 rv1 vs1) : IsDk w1 p fv ms D ∧ (∀ j ∈ foot p fv ms, j ∉ rfoot q rv1 vs1) := by
  refine ⟨hd.kept ht.kept (fun k hk e => hap k hk e), fun j hj hm => ?_⟩
  rcases ht.foot j hm with e | e
  · exact hap j hj e
  · have := hd.lt hj; omega

theorem Both.mono {w0 w : World} {p q : Nat} {D : DkD} {R : RD} {k k' : Nat} (h : Both w0 w p q D R k) (hk : k ≤ k') : Both w0 w p q D R k' := ⟨h.ex, h.ok, h.calm, h.play, h.more, by have := h.writes; omega, h.bel⟩

/-- Both are turned, one behind the other. -/
theorem Both.both {w0 w w1 w2 : World} {p q : Nat} {D D1 : DkD} {R R1 : RD} {k k1 : Nat} (h : Both w0 w p q D R k) {fv fv1 rv rv1 : Value} {ms ms1 : List FiM} {vs vs1 : List Value} (hr : IsRd w q rv vs R) (hap : ∀ j ∈ foot p fv ms, j ∉ rfoot q rv vs) (h4 : ∀ j ∈ foot p fv ms, w0.heap.size ≤ j) (h5 : ∀ j ∈ rfoot q rv vs, w0.heap.size ≤ j) (ht : DkTo w p fv ms w1 D1 fv1 ms1) (ht2 : RdTo w1 q rv vs w2 R1 rv1 vs1) (ok : DkOk D1) (hc : Calm D1) (hp : Play D1 R1) (hm : R1.more ≤ 9223372036854775807) (hw : D1.writes ≤ k1) : Both w0 w2 p q D1 R1 k1 := by
  obtain ⟨i1, a1⟩ := both_dk hr hap ht
  obtain ⟨i2, a2⟩ := both_rd ht.is a1 ht2
  have hs := h.bel.size
  have hs1 := ht.kept.size
  refine ⟨⟨fv1, ms1, rv1, vs1, i2, ht2.is, a2, fun j hj => ?_, fun j hj => ?_⟩, ok, hc, hp, hm, hw, ?_⟩
  · rcases ht.foot j hj with e | e
    · exact h4 j e
    · omega
  · rcases ht2.foot j hj with e | e
    · exact h5 j e
    · omega
  · exact (h.bel.trans (ht.kept.below hs (fun j e => h4 j e))).trans (ht2.kept.below (by omega) (fun j e => h5 j e))

end Go.Proofs.YtdbphdllibffnaaGreat

/- One thing that is done to a disk (layer 11), as data; a name of a file; Put of the program in one form. -/
namespace Go.Proofs.YtdbphdllibffnaaGreat
open Go.RowKit Go.Shelf
set_option maxRecDepth 8000

structure OpM where
  kind : Int
  m : MaD
  pa : Option Addr
  pc : Nat
  p : List Int
  n : Int
  ka : Option Addr
  kc : Nat
  keep : List Int

def OpM.cells (o : OpM) : List Value := [.int .i64 o.kind, .int .u32 o.m.boot, .int .u32 o.m.acc, .int .u32 o.m.cur, .int .i64 o.m.snap, .int .i64 o.m.log, .slice o.pa o.p.length o.pc, .int .i64 o.n, .slice o.ka o.keep.length o.kc]

/-- What holds of one in memory, all of it below n. -/
structure GoodOpM (w : World) (n : Nat) (o : OpM) : Prop where
  see : Sees w (.slice o.pa o.p.length o.pc) o.p
  keep : SeesN w (.slice o.ka o.keep.length o.kc) o.keep
  pl : o.p.length ≤ 140737488355328
  kl : o.keep.length ≤ 140737488355328
  pb : o.p ≠ [] → ∀ k, (Value.slice o.pa o.p.length o.pc).ownBlock = some k → k < n
  kb : o.keep ≠ [] → ∀ k, (Value.slice o.ka o.keep.length o.kc).ownBlock = some k → k < n
  n1 : o.n ≤ 9223372036854775807
  byts : Byts o.p
  fits : o.m.Fits

theorem GoodOpM.kept {w w' : World} {S : Nat → Prop} {n : Nat} {o : OpM} (h : GoodOpM w n o) (hk : Kept w w' S) (hS : ∀ k, k < n → ¬ S k) : GoodOpM w' n o :=
  ⟨h.see.keptN hk (fun hy k e => hS k (h.pb hy k e)), h.keep.kept hk (fun hy k e => hS k (h.kb hy k e)), h.pl, h.kl, h.pb, h.kb, h.n1, h.byts, h.fits⟩

/-- The file that a number names. -/
def fileN (n : Int) : ByteArray := if n = 0 then manN else if n = 1 then newN else ⟨#[120]⟩
theorem fileN_size (n : Int) : (fileN n).size ≤ 140737488355328 := by
  unfold fileN
  split
  · decide
  · split <;> decide

set_option maxHeartbeats 400000 in
theorem file_any (n : Int) (w : World) : Calls Tryz.prog 23 #[.int .i64 n] w fun e w' => e = .returned (.string (fileN n)) ∧ w' = w := by
  unfold fileN
  by_cases h0 : n = 0
  · subst h0
    go_enter Tryz.func23, Tryz.ntmps23
    go_wp2_with fail
    go_ret
    exact ⟨rfl, rfl⟩
  · rw [if_neg h0]
    have b0 : (n == 0) = false := by simp [h0]
    by_cases h1 : n = 1
    · subst h1
      go_enter Tryz.func23, Tryz.ntmps23
      go_wp2_with fail
      go_ret
      exact ⟨rfl, rfl⟩
    · rw [if_neg h1]
      have b1 : (n == 1) = false := by simp [h1]
      go_enter Tryz.func23, Tryz.ntmps23
      go_wp2_with fail
      go_ret
      exact ⟨rfl, rfl⟩

theorem mput_any {w : World} {p : Nat} {fv : Value} {ms : List FiM} {D : DkD} (h : IsDk w p fv ms D) (ok : DkOk D) (hw : D.writes ≤ 4611686018427387000) (m : MaD) (hm : m.Fits) :
    Calls Tryz.prog 17 #[.pointer (some ⟨p, 0, none⟩), m.val] w (ActTo w p fv ms (putD m D)) := by
  unfold putD
  by_cases hy : mayM m = true
  · rw [if_pos hy]
    by_cases hn : hasF D.files newN = true
    · rw [if_pos hn]
      exact mput_yes h ok hw hn m hm hy
    · rw [if_neg hn]
      exact mput_no h ok hw (by cases e : hasF D.files newN with | false => rfl | true => exact absurd e hn) m hm hy
  · rw [if_neg hy]
    refine (mput_bad h ok m (by cases e : mayM m with | false => rfl | true => exact absurd e hy)).mono ?_
    rintro e w' ⟨rfl, hb⟩
    exact ⟨rfl, fv, ms, DkTo.bel h hb⟩
end Go.Proofs.YtdbphdllibffnaaGreat
