/- telltalelaw08.awake answers true. Conditions: none. -/
import Derived.Test.YtbgapkhcaideiaaHP2
import Derived.Test.YtbgapkhcaideiaaVV1
import Derived.Test.YtbgapkhcaideiaaVR5
import Derived.BigQuiet
import Derived.Lib.UnsafeStr
namespace Go.Proofs.Ytbgapkhcaideiaa
open Go Go.RowKit

theorem hsum_of (s : ByteArray) (q : Nat) (hq : addH 14695981039346656037 s.data.toList = q) (w : World) (hs : s.size ≤ 9223372036854775807) : Calls Try.prog 10 #[.string s] w (Just w (.int .u64 (q : Int))) := by
  subst hq
  exact hsum_any s w hs
theorem key_of (p : Int) (k : Nat) (n : Int) (b : Nat) (t s : ByteArray) (hq : (⟨(keyH p k n b t).toArray⟩ : ByteArray) = s) (w : World) (hp0 : -9223372036854775808 ≤ p) (hp1 : p ≤ 9223372036854775807) (hk : k ≤ 255) (hn0 : -9223372036854775808 ≤ n) (hn1 : n ≤ 9223372036854775807) (hb : b ≤ 18446744073709551615) (ht : t.size ≤ 9223372036854775807) :
    Calls Try.prog 14 #[.int .i64 p, .agg #[.int .u8 (k : Int), .int .i64 n, .int .u64 (b : Int), .string t]] w (Says w (.string s)) := by
  subst hq
  exact key_any p k n b t w hp0 hp1 hk hn0 hn1 hb ht
theorem pat_of (s : ByteArray) (q : Int) (hq : patH s.data.toList = q) (w : World) (hs : s.size ≤ 9223372036854775807) : Calls Try.prog 18 #[.string s] w (Just w (.int .i64 q)) := by
  subst hq
  exact pattern_any s w hs

theorem ka1 : addH 14695981039346656037 (⟨#[]⟩ : ByteArray).data.toList = 14695981039346656037 := rfl
theorem ka2 : addH 14695981039346656037 (⟨#[97]⟩ : ByteArray).data.toList = 12638187200555641996 := by decide +kernel
theorem ka3 : (⟨(keyH 258 1 1 0 noText).toArray⟩ : ByteArray) = ⟨#[2, 1, 2]⟩ := by decide +kernel
theorem ka4 : bareH (-1) = 255 := by decide +kernel
theorem ka5 : (⟨(keyH 1 0 0 0 noText).toArray⟩ : ByteArray) = ⟨#[]⟩ := by decide +kernel
theorem ka6 : mixH 1 = 6238072747940578789 := by decide +kernel

set_option maxRecDepth 100000 in
set_option maxHeartbeats 4000000 in
theorem hawake_any (w : World) : Calls Try.prog 7 #[] w (Says w (.bool true)) := by
  have k1 := fun W => hsum_of ⟨#[]⟩ _ ka1 W (by decide)
  have k2 := fun W => hsum_of ⟨#[97]⟩ _ ka2 W (by decide)
  have k0 := fun W => vofint_any 1 W (by decide) (by decide)
  have k3 := fun W => key_of 258 1 1 0 noText _ ka3 W (by decide) (by decide) (by decide) (by decide) (by decide) (by decide) (by decide)
  have k4 := fun W => bare_any (-1) W (by decide) (by decide)
  rw [ka4] at k4
  have k5 := fun W => pat_of ⟨#[2, 120]⟩ 2 rfl W (by decide)
  have k6 := fun W => pat_of ⟨#[]⟩ (-1) rfl W (by decide)
  have k7 := fun W => key_of 1 0 0 0 noText _ ka5 W (by decide) (by decide) (by decide) (by decide) (by decide) (by decide) (by decide)
  have k8 := fun W => worker_any ⟨#[97]⟩ 0 W (by decide) (by decide) (by decide)
  rw [worker_low (show (0 : Int) < 1 by decide)] at k8
  have k9 := fun W => mix_any 1 W (by decide)
  rw [ka6] at k9
  go_enter Try.func7, Try.ntmps7
  go_wp2_with (first
    | ((with_reducible show Calls _ 10 #[.string ⟨#[]⟩] _ _); refine (k1 _).mono ?_; rintro e w1 ⟨rfl, rfl⟩)
    | ((with_reducible show Calls _ 10 _ _ _); refine (k2 _).mono ?_; rintro e w1 ⟨rfl, rfl⟩)
    | ((with_reducible show Calls _ 23 _ _ _); refine (k0 _).mono ?_; rintro e w2 ⟨rfl, hx2⟩)
    | ((with_reducible show Calls _ 14 #[.int .i64 258, _] _ _); refine (k3 _).mono ?_; rintro e w3 ⟨rfl, hx3⟩)
    | ((with_reducible show Calls _ 16 _ _ _); refine (k4 _).mono ?_; rintro e w4 ⟨rfl, hx4⟩)
    | ((with_reducible show Calls _ 18 #[.string ⟨#[2, 120]⟩] _ _); refine (k5 _).mono ?_; rintro e w1 ⟨rfl, rfl⟩)
    | ((with_reducible show Calls _ 18 _ _ _); refine (k6 _).mono ?_; rintro e w1 ⟨rfl, rfl⟩)
    | ((with_reducible show Calls _ 14 #[.int .i64 1, _] _ _); refine (k7 _).mono ?_; rintro e w5 ⟨rfl, hx5⟩)
    | ((with_reducible show Calls _ 20 _ _ _); refine (k8 _).mono ?_; rintro e w1 ⟨rfl, rfl⟩)
    | ((with_reducible show Calls _ 11 _ _ _); refine (k9 _).mono ?_; rintro e w1 ⟨rfl, rfl⟩))
  go_ret
  exact ⟨rfl, ((hx2.trans hx3).trans hx4).trans hx5⟩
end Go.Proofs.Ytbgapkhcaideiaa
